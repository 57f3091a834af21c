/-
  Laid together for a hand-in: All9, Pile9, PileA9, Root9, First9, Aid9, Of9.
-/
import Derived.Test.YtfaeechidjpjbaaGreatZ17
import Derived.Test.YtfaeechidjpjbaaGreatZ01
import Derived.Test.YtfaeechidjpjbaaGreatZ16
import Derived.Lib.AppendZeros

namespace Go.Proofs.YtfaeechidjpjbaaGreat

open Go.RowKit Go.Maps

set_option linter.unusedVariables false

section

variable {B g bm : Nat} {s : Bk} {ls : List (List UInt8)} {lf : Value} {L : Nat → Lv} {n : Nat} {w w' : World} {N K : Nat → Prop}

theorem Kb.setN (h : Kb B w g bm s N) {p : Nat} (hp : N p) (o : Nat) (v : Value) : Kb B (w.setCell ⟨p, o, none⟩ v) g bm s N :=
  h.other (by simp [World.setCell]) (fun i hi hn => Below.heap_setCell w ⟨p, o, none⟩ v i (fun e => hn (by rw [e]; exact hp))) fun i hi => .inl hi

theorem Pre.turn (h : Pre B g bm s ls lf L n w N) {m : Nat} (hm : n < m) (hord : ∀ i, i ≤ n → ∀ a b, (L i).has a → (L m).has b → a < b) (hN : N (L m).p) (v : Value) : Pre B g bm s ls lf L n (w.setCell ⟨(L m).p, 1, none⟩ v) N := by
  have e : ∀ i, i ≤ n → ∀ a, (L i).has a → (w.setCell ⟨(L m).p, 1, none⟩ v).heap[a]? = w.heap[a]? := fun i hi a ha => Below.heap_setCell w ⟨(L m).p, 1, none⟩ v a (by
    have := hord i hi a _ ha (show (L m).has (L m).p by simp [Lv.has])
    show a ≠ (L m).p
    omega)
  exact ⟨h.kb.setN hN 1 v, by have := h.hB; simpa [World.setCell] using this, fun i hi => (h.un i hi).stay (e i hi _ (by simp [Lv.has])) (e i hi _ (by simp [Lv.has])) (e i hi _ (by simp [Lv.has])) (e i hi _ (by simp [Lv.has])),
    fun i hi => (h.caps i hi).stay (e i hi), h.inN, h.ord⟩

theorem Lf.turn {F : Nat} {caps : List Value} {m : Nat} (h : Lf B F caps ls L m K w N) (v : Value) : Lf B F caps ls L m K (w.setCell ⟨(L m).p, 1, none⟩ v) N :=
  ⟨h.at_.later ⟨by simp [World.setCell], fun j hj => Below.heap_setCell w ⟨(L m).p, 1, none⟩ v j (fun e => (h.kK j hj).2.2 m (Nat.le_refl _) (.inl e))⟩, fun j hj => by simpa [World.setCell] using h.kK j hj⟩

theorem Lf.less {F : Nat} {caps : List Value} {m : Nat} (h : Lf B F caps ls L m K w N) (hn : n ≤ m) : Lf B F caps ls L n K w N :=
  ⟨h.at_, fun j hj => ⟨(h.kK j hj).1, (h.kK j hj).2.1, fun i hi => (h.kK j hj).2.2 i (by omega)⟩⟩

theorem Pre.less {m : Nat} (h : Pre B g bm s ls lf L m w N) (hn : n ≤ m) : Pre B g bm s ls lf L n w N :=
  ⟨h.kb, h.hB, fun i hi => h.un i (by omega), fun i hi => h.caps i (by omega), fun i hi => h.inN i (by omega), fun i j hij hj => h.ord i j hij (by omega)⟩

theorem mid_of {l : Lv} {mk : Value} (h : Un w l mk) (hpd : l.p ≠ l.d) (hpe : l.p ≠ l.e) (hk : w'.heap[l.p]? = (w.setCell ⟨l.p, 1, none⟩ (.int .i32 1)).heap[l.p]?) (hd : w'.heap[l.d]? = w.heap[l.d]?) (he : w'.heap[l.e]? = w.heap[l.e]?) : Mid l w' :=
  ⟨hk.trans (h.p.set_ 1 (.int .i32 1)), hd.trans h.d, he.trans h.e⟩

end

theorem ask0O (B g bm : Nat) (s : Bk) (ls : List (List UInt8)) (L : Nat → Lv) (lb : Nat) (K : Nat → Prop) (hL : s.1.length + 20000 < 1000000) (hk : s.2.2 + 20000 < 1000000) (hls : ∀ x ∈ ls, x.length ≤ 65535) (h1 : 1 ≤ ls.length) (h2 : ls.length ≤ 1024) :
    AskOK B g bm s ls 95 [.pointer (some ⟨lb, 0, none⟩)] (.func (.func 95) #[] #[.pointer (some ⟨lb, 0, none⟩)]) L K 0 := by
  intro w N h hlf
  have hU := h.un 0 (Nat.le_refl _)
  obtain ⟨hx, hy, hz⟩ := h.caps 0 (Nat.le_refl _)
  have hin := h.inN 0 (Nat.le_refl _)
  have hpN : N (L 0).p := hin _ (by simp [Lv.has])
  have hpd : (L 0).p ≠ (L 0).d := hU.p.ne hU.d (by decide)
  have hpe : (L 0).p ≠ (L 0).e := hU.p.ne hU.e (by decide)
  have hpx : (L 0).x ≠ (L 0).p := hx.ne hU.p (by decide)
  have hpy : (L 0).y ≠ (L 0).p := hy.ne hU.p (by decide)
  have hpz : (L 0).z ≠ (L 0).p := hz.ne hU.p (by decide)
  obtain ⟨wS, hwS⟩ : ∃ wS, w.setCell ⟨(L 0).p, 1, none⟩ (.int .i32 1) = wS := ⟨_, rfl⟩
  have hSz : wS.heap.size = w.heap.size := by rw [← hwS]; simp [World.setCell]
  have hSb : ∀ i, i ≠ (L 0).p → wS.heap[i]? = w.heap[i]? := fun i hi => by rw [← hwS]; exact Below.heap_setCell w ⟨(L 0).p, 1, none⟩ _ i hi
  have hlfS := hlf.turn (.int .i32 1)
  have hbot := bottomO B g bm s N (L 0) lb ls wS K (by rw [← hwS]; exact h.kb.setN hpN 1 _) (by rw [hSz]; exact h.hB) (by omega) (by omega) hls h1 h2
    (Blk.cell (t := 3) (cs := [.int .i64 (ls.length : Int)]) ((hSb _ hpx).trans hx) rfl) (Blk.cell (t := 29) (cs := [.pointer (some ⟨g, 0, none⟩)]) ((hSb _ hpy).trans hy) rfl) (Blk.cell (t := 131) (cs := [.func (.func 95) #[] #[.pointer (some ⟨lb, 0, none⟩)]]) ((hSb _ hpz).trans hz) rfl) (by rw [hSz]; exact hx.lt) (hin _ (by simp [Lv.has])) (hin _ (by simp [Lv.has]))
    (fun j hj => by rw [hSz]; exact ⟨(hlf.kK j hj).1, (hlf.kK j hj).2.1⟩) (by rw [← hwS]; exact hlfS.at_)
  have hst : ∀ (w1 : World), Out (Tn B bm wS N) wS w1 → ∀ i, N i → w1.heap[i]? = wS.heap[i]? := fun w1 ho i hi => ho.block i (by rw [hSz]; exact h.kb.lt hi) (Tn.keep hi)
  have hask := askB (L 0) (fun r nn c w1 => nn = ls.length ∧ c = ls.length ∧ r = wS.heap.size ∧ BotI B g bm s N ls wS ls.length w1) w hU (by
    rw [hwS]
    refine hbot.mono ?_
    rintro e w1 ⟨rfl, hI⟩
    refine ⟨_, _, _, rfl, ?_, rfl, rfl, rfl, hI⟩
    have hs := hst w1 hI.2.1
    exact mid_of hU hpd hpe (by rw [hwS]; exact hs _ hpN) ((hs _ (hin _ (by simp [Lv.has]))).trans (hSb _ (fun e => hpd e.symm))) ((hs _ (hin _ (by simp [Lv.has]))).trans (hSb _ (fun e => hpe e.symm))))
  refine hask.mono ?_
  rintro e w' ⟨r, nn, c, w1, rfl, ⟨rfl, rfl, rfl, hKb, hO, X, hR⟩, hM, hp, hd, he, ho, hz'⟩
  have hX : X = [] := by
    have := hR.1
    rw [List.length_append, List.take_of_length_le (by rw [lows_len]; exact Nat.le_refl _), cbs_length, flat_len (all32_lows ls), lows_len] at this
    exact List.eq_nil_of_length_eq_zero (by omega)
  subst hX
  rw [List.append_nil, List.take_of_length_le (by rw [lows_len]; exact Nat.le_refl _)] at hR
  rw [List.take_of_length_le (by rw [List.length_map]; exact Nat.le_refl _)] at hKb
  have hll : (lvl (lows ls) 0).length = ls.length := lows_len ls
  refine ⟨fun _ => (wS.heap.size, ls.length), by rw [hll], ?_, ?_, ?_, ?_, ?_⟩
  · intro i hi
    obtain rfl : i = 0 := by omega
    refine ⟨hp, by rw [hll]; exact hd, he, ?_⟩
    rw [hll]
    refine row_base (row_stay hR fun b cs hb _ => ?_) (Nat.zero_le _)
    have hb2 : b = wS.heap.size := by simp [Value.ownBlock] at hb; exact hb.symm
    subst hb2
    refine ho.block _ (row_lt hR) fun e => ?_
    have := h.kb.lt (hin _ (Lv.turn_has e))
    omega
  · intro i hi; show w.heap.size ≤ wS.heap.size; omega
  · intro i j hij hj; omega
  · refine hKb.other (by omega) (fun i hi hn => ho.block i hi fun e => hn (.inl (hin _ (Lv.turn_has e)))) fun i hi => ?_
    rcases hi with hi | ⟨j, _, rfl⟩
    · exact .inl (.inl hi)
    · exact .inl (.inr rfl)
  · have o0 : Out (fun i => Tn B bm w N i ∨ TT L 0 i) w wS := by
      rw [← hwS]; exact Out.setCell (p := ⟨(L 0).p, 1, none⟩) (Out.refl _ _) (fun _ => .inr ⟨0, Nat.le_refl _, .inl rfl⟩) _
    have o1 : Out (fun i => Tn B bm w N i ∨ TT L 0 i) w w1 := o0.trans hO fun i hi hs => by
      refine .inl ⟨hs.1, hs.2.1, ?_⟩
      rcases hs.2.2 with e | ⟨cs, t, fr, hc⟩
      · exact .inl e
      · exact .inr ⟨cs, t, fr, (hSb i fun e => hs.2.1 (by rw [e]; exact hpN)).symm.trans hc⟩
    exact o1.trans ho fun i hi hs => .inr ⟨0, Nat.le_refl _, hs⟩

/-- From one level to the next. -/
theorem ask_step (B g bm : Nat) (s : Bk) (ls : List (List UInt8)) (F : Nat) (caps : List Value) (lf : Value) (L : Nat → Lv) (K : Nat → Prop) (hL : s.1.length + 20000 < 1000000) (hk : s.2.2 + 20000 < 1000000) (h1 : 1 ≤ ls.length) (h2 : ls.length ≤ 1024)
    (n : Nat) (hn : n ≤ 6) (IH : AskOK B g bm s ls F caps lf L K n) : AskOK B g bm s ls F caps lf L K (n + 1) := by
  intro w N h hlf
  have hU := h.un (n + 1) (Nat.le_refl _)
  obtain ⟨hx, hy⟩ := h.caps (n + 1) (Nat.le_refl _)
  have hin := h.inN (n + 1) (Nat.le_refl _)
  have hpN : N (L (n + 1)).p := hin _ (by simp [Lv.has])
  have hpd : (L (n + 1)).p ≠ (L (n + 1)).d := hU.p.ne hU.d (by decide)
  have hpe : (L (n + 1)).p ≠ (L (n + 1)).e := hU.p.ne hU.e (by decide)
  have hpx : (L (n + 1)).x ≠ (L (n + 1)).p := hx.ne hU.p (by decide)
  have hpy : (L (n + 1)).y ≠ (L (n + 1)).p := hy.ne hU.p (by decide)
  have hlow : ∀ i, i ≤ n → ∀ a b, (L i).has a → (L (n + 1)).has b → a < b := fun i hi => h.ord i (n + 1) (by omega) (Nat.le_refl _)
  have hnT : ∀ a, (L (n + 1)).has a → ¬ TT L n a := fun a ha ⟨j, hj, ht⟩ => by have := hlow j hj a a (Lv.turn_has ht) ha; omega
  obtain ⟨wS, hwS⟩ : ∃ wS, w.setCell ⟨(L (n + 1)).p, 1, none⟩ (.int .i32 1) = wS := ⟨_, rfl⟩
  have hSz : wS.heap.size = w.heap.size := by rw [← hwS]; simp [World.setCell]
  have hSb : ∀ i, i ≠ (L (n + 1)).p → wS.heap[i]? = w.heap[i]? := fun i hi => by rw [← hwS]; exact Below.heap_setCell w ⟨(L (n + 1)).p, 1, none⟩ _ i hi
  have hPre : Pre B g bm s ls lf L n wS N := by rw [← hwS]; exact (h.less (by omega)).turn (by omega) hlow hpN _
  have hLf : Lf B F caps ls L n K wS N := by rw [← hwS]; exact (hlf.turn _).less (by omega)
  have habv := above_any B g bm s ls F caps lf L K n IH wS N hPre hLf (L (n + 1)) ((hSb _ hpx).trans hx) ((hSb _ hpy).trans hy) (hin _ (by simp [Lv.has])) (hnT _ (by simp [Lv.has])) hL hk h1 h2 hn
  have hask := askA (L (n + 1)) (fun r nn c w1 => ∃ R : Nat → Nat × Nat, r = (R (n + 1)).1 ∧ c = (R (n + 1)).2 ∧ nn = (lvl (lows ls) (n + 1)).length ∧ AbvP B g bm s ls L n wS N (.returned (.tuple #[.slice (some ⟨(R (n + 1)).1, 0, none⟩) (lvl (lows ls) (n + 1)).length (R (n + 1)).2, .int .i64 0])) w1) w hU (by
    rw [hwS]
    refine habv.mono ?_
    rintro e w1 ⟨R, rfl, k1, k2, k3, k4, k5, k6⟩
    have hs : ∀ i, (L (n + 1)).has i → w1.heap[i]? = wS.heap[i]? := fun i hi => k6.block i (by rw [hSz]; exact h.kb.lt (hin _ hi)) fun e => by
      rcases e with e | e
      · exact e.2.1 (hin _ hi)
      · exact hnT _ hi e
    exact ⟨_, _, _, rfl, mid_of hU hpd hpe (by rw [hwS]; exact hs _ (by simp [Lv.has])) ((hs _ (by simp [Lv.has])).trans (hSb _ (fun e => hpd e.symm))) ((hs _ (by simp [Lv.has])).trans (hSb _ (fun e => hpe e.symm))), R, rfl, rfl, rfl, R, rfl, k1, k2, k3, k4, k5, k6⟩)
  refine hask.mono ?_
  rintro e w' ⟨r, nn, c, w1, rfl, ⟨R0, rfl, rfl, rfl, R, hRe, k1, k2, k3, k4, k5, k6⟩, hM, hp, hd, he, ho, hz'⟩
  have hR0 : (R0 (n + 1)).1 = (R (n + 1)).1 ∧ (R0 (n + 1)).2 = (R (n + 1)).2 := by
    simp at hRe
    exact hRe
  rw [hR0.1, hR0.2] at hd ⊢
  have hkeep : ∀ i, i < w1.heap.size → ¬ (L (n + 1)).turn i → w'.heap[i]? = w1.heap[i]? := fun i hi ht => ho.block i hi ht
  have hrt : ∀ i, i ≤ n + 1 → ¬ (L (n + 1)).turn (R i).1 := fun i hi ht => by
    have := h.kb.lt (hin _ (Lv.turn_has ht)); have := k3 i hi; omega
  refine ⟨R, rfl, fun i hi => ?_, fun i hi => by have := k3 i hi; omega, k4, ?_, ?_⟩
  · by_cases hin' : i ≤ n
    · have hb := k1 i hin'
      have hne : ∀ a, (L i).has a → ¬ (L (n + 1)).turn a := fun a ha ht => by have := hlow i hin' a a ha (Lv.turn_has ht); omega
      exact hb.stay (hkeep _ hb.p.lt (hne _ (by simp [Lv.has]))) (hkeep _ hb.d.lt (hne _ (by simp [Lv.has]))) (hkeep _ hb.e.lt (hne _ (by simp [Lv.has]))) (hkeep _ (row_lt hb.row) (hrt i (by omega)))
    · obtain rfl : i = n + 1 := by omega
      refine ⟨hp, hd, he, row_stay k2 fun b cs hb _ => ?_⟩
      have hb2 : b = (R (n + 1)).1 := by simp [Value.ownBlock] at hb; exact hb.symm
      subst hb2
      exact hkeep _ (row_lt k2) (hrt _ (Nat.le_refl _))
  · exact k5.other (by omega) (fun i hi hn => hkeep i hi fun ht => hn (.inl (hin _ (Lv.turn_has ht)))) fun i hi => .inl hi
  · have o0 : Out (fun i => Tn B bm w N i ∨ TT L (n + 1) i) w wS := by
      rw [← hwS]; exact Out.setCell (p := ⟨(L (n + 1)).p, 1, none⟩) (Out.refl _ _) (fun _ => .inr ⟨n + 1, Nat.le_refl _, .inl rfl⟩) _
    have o1 : Out (fun i => Tn B bm w N i ∨ TT L (n + 1) i) w w1 := o0.trans k6 fun i hi hs => by
      rcases hs with hs | ⟨j, hj, ht⟩
      · refine .inl ⟨hs.1, hs.2.1, ?_⟩
        rcases hs.2.2 with e | ⟨cs, t, fr, hc⟩
        · exact .inl e
        · exact .inr ⟨cs, t, fr, (hSb i fun e => hs.2.1 (by rw [e]; exact hpN)).symm.trans hc⟩
      · exact .inr ⟨j, by omega, ht⟩
    exact o1.trans ho fun i hi hs => .inr ⟨n + 1, Nat.le_refl _, hs⟩

theorem ask_all (B g bm : Nat) (s : Bk) (ls : List (List UInt8)) (F : Nat) (caps : List Value) (lf : Value) (L : Nat → Lv) (K : Nat → Prop) (hL : s.1.length + 20000 < 1000000) (hk : s.2.2 + 20000 < 1000000) (h1 : 1 ≤ ls.length) (h2 : ls.length ≤ 1024)
    (h0 : AskOK B g bm s ls F caps lf L K 0) : ∀ n, n ≤ 6 → AskOK B g bm s ls F caps lf L K n := by
  intro n
  induction n with
  | zero => intro _; exact h0
  | succ n ih => intro hn; exact ask_step B g bm s ls F caps lf L K hL hk h1 h2 n (by omega) (ih (by omega))

end Go.Proofs.YtfaeechidjpjbaaGreat

namespace Go.Proofs.YtfaeechidjpjbaaGreat

open Go.RowKit Go.Maps

set_option linter.unusedVariables false

/-- Four blocks of a level, from b on. -/
def lvAt (b x y z : Nat) : Lv := ⟨b + 1, b, b + 2, b + 3, x, y, z⟩

def fnV (F : Nat) (cs : Array Value) : Value := .func (.func F) #[] cs

theorem once_any (F : Nat) (cs : Array Value) (x y z : Nat) (w : World) : Calls Tryz.prog 124 #[.func (.func F) #[] cs] w fun e w' =>
    e = .returned (fnOf (lvAt w.heap.size x y z)) ∧ Un w' (lvAt w.heap.size x y z) (.func (.func F) #[] cs) ∧ Below w.heap.size w w' ∧ w'.heap.size = w.heap.size + 4 := by
  go_enter Tryz.func124, Tryz.ntmps124
  go_wp2
  go_ret
  have h1 : Blk (w.alloc (.cells #[.func (.func F) #[] cs] 147)) w.heap.size 147 [.func (.func F) #[] cs] := Blk.new rfl rfl
  refine ⟨?_, ⟨?_, ?_, ?_, ?_⟩, ?_, ?_⟩
  · simp [fnOf, lvAt, ptr]
  · exact ((Blk.new (l := once0) rfl (by simp [lvAt]) : Blk ((w.alloc (.cells #[.func (.func F) #[] cs] 147)).alloc (.cells #[.int .u32 0, .int .i32 0, .int .u32 0] 173)) _ _ _).old _).old _
  · exact ((h1.old _).old _).old _
  · exact (Blk.new rfl (by simp [lvAt]) : Blk (((w.alloc (.cells #[.func (.func F) #[] cs] 147)).alloc (.cells #[.int .u32 0, .int .i32 0, .int .u32 0] 173)).alloc (.cells #[.slice none 0 0] 144)) _ _ _).old _
  · exact Blk.new rfl (by simp [lvAt])
  · exact ((((Below.refl _ _).alloc (Nat.le_refl _) _).alloc (by simp) _).alloc (by simp; omega) _).alloc (by simp; omega) _
  · simp

def lvB (b : Nat) : Lv := lvAt (b + 3) (b + 1) b (b + 2)

def lvA (b : Nat) : Lv := lvAt (b + 2) (b + 1) b b

def CapsB (w : World) (g many : Nat) (lf : Value) (l : Lv) : Prop := Blk w l.x 3 [.int .i64 (many : Int)] ∧ Blk w l.y 29 [.pointer (some ⟨g, 0, none⟩)] ∧ Blk w l.z 131 [lf]

def CapsA (w : World) (g : Nat) (below : Value) (l : Lv) : Prop := Blk w l.x 148 [below] ∧ Blk w l.y 29 [.pointer (some ⟨g, 0, none⟩)]

set_option maxRecDepth 100000 in
set_option maxHeartbeats 800000 in
theorem bottom_any (g many F : Nat) (cs : Array Value) (w : World) : Calls Tryz.prog 108 #[.pointer (some ⟨g, 0, none⟩), .int .i64 (many : Int), .func (.func F) #[] cs] w fun e w' =>
    e = .returned (fnOf (lvB w.heap.size)) ∧ Un w' (lvB w.heap.size) (mkB (lvB w.heap.size)) ∧ CapsB w' g many (.func (.func F) #[] cs) (lvB w.heap.size) ∧ Below w.heap.size w w' ∧ w'.heap.size = w.heap.size + 7 := by
  obtain ⟨w3, hw3⟩ : ∃ w3, (((w.alloc (.cells #[.pointer (some ⟨g, 0, none⟩)] 29)).alloc (.cells #[.int .i64 (many : Int)] 3)).alloc (.cells #[.func (.func F) #[] cs] 131)) = w3 := ⟨_, rfl⟩
  have h1 : Blk w3 w.heap.size 29 [.pointer (some ⟨g, 0, none⟩)] := by rw [← hw3]; exact ((Blk.new rfl rfl : Blk (w.alloc (.cells #[.pointer (some ⟨g, 0, none⟩)] 29)) _ _ _).old _).old _
  have h2 : Blk w3 (w.heap.size + 1) 3 [.int .i64 (many : Int)] := by rw [← hw3]; exact (Blk.new rfl (by simp) : Blk ((w.alloc (.cells #[.pointer (some ⟨g, 0, none⟩)] 29)).alloc (.cells #[.int .i64 (many : Int)] 3)) (w.heap.size + 1) _ _).old _
  have h3 : Blk w3 (w.heap.size + 2) 131 [.func (.func F) #[] cs] := by rw [← hw3]; exact Blk.new rfl (by simp)
  have hbw : Below w.heap.size w w3 := by rw [← hw3]; exact (((Below.refl _ w).alloc (Nat.le_refl _) _).alloc (by simp) _).alloc (by simp; omega) _
  have hz3 : w3.heap.size = w.heap.size + 3 := by rw [← hw3]; simp
  have hon := once_any 125 #[.pointer (some ⟨w.heap.size + 1, 0, none⟩), .pointer (some ⟨w.heap.size, 0, none⟩), .pointer (some ⟨w.heap.size + 2, 0, none⟩)] (w.heap.size + 1) w.heap.size (w.heap.size + 2) w3
  rw [hz3] at hon
  have Hon := Lib.hid hon
  have H := Lib.hid (And.intro h1 (And.intro h2 (And.intro h3 (And.intro hbw hz3))))
  clear hon h1 h2 h3 hbw hz3
  go_enter Tryz.func108, Tryz.ntmps108
  go_wp2_with fail
  refine Hon.out.mono ?_
  rintro e w1 ⟨rfl, hU, hb, hz⟩
  have H2 := Lib.hid (And.intro hU (And.intro hb hz))
  clear hU hb hz hw3
  go_wp2
  go_ret
  obtain ⟨h1, h2, h3, hbw, hz3⟩ := H.out
  obtain ⟨hU, hb, hz⟩ := H2.out
  exact ⟨rfl, hU, ⟨h2.below hb (by omega), h1.below hb (by omega), h3.below hb (by omega)⟩, hbw.trans (hb.mono (by omega)), by omega⟩

set_option maxRecDepth 100000 in
set_option maxHeartbeats 800000 in
theorem above_make (g F : Nat) (cs : Array Value) (w : World) : Calls Tryz.prog 109 #[.pointer (some ⟨g, 0, none⟩), .func (.func F) #[] cs] w fun e w' =>
    e = .returned (fnOf (lvA w.heap.size)) ∧ Un w' (lvA w.heap.size) (mkA (lvA w.heap.size)) ∧ CapsA w' g (.func (.func F) #[] cs) (lvA w.heap.size) ∧ Below w.heap.size w w' ∧ w'.heap.size = w.heap.size + 6 := by
  obtain ⟨w3, hw3⟩ : ∃ w3, ((w.alloc (.cells #[.pointer (some ⟨g, 0, none⟩)] 29)).alloc (.cells #[.func (.func F) #[] cs] 148)) = w3 := ⟨_, rfl⟩
  have h1 : Blk w3 w.heap.size 29 [.pointer (some ⟨g, 0, none⟩)] := by rw [← hw3]; exact (Blk.new rfl rfl : Blk (w.alloc (.cells #[.pointer (some ⟨g, 0, none⟩)] 29)) _ _ _).old _
  have h2 : Blk w3 (w.heap.size + 1) 148 [.func (.func F) #[] cs] := by rw [← hw3]; exact Blk.new rfl (by simp)
  have hbw : Below w.heap.size w w3 := by rw [← hw3]; exact ((Below.refl _ w).alloc (Nat.le_refl _) _).alloc (by simp) _
  have hz3 : w3.heap.size = w.heap.size + 2 := by rw [← hw3]; simp
  have hon := once_any 127 #[.pointer (some ⟨w.heap.size + 1, 0, none⟩), .pointer (some ⟨w.heap.size, 0, none⟩)] (w.heap.size + 1) w.heap.size w.heap.size w3
  rw [hz3] at hon
  have Hon := Lib.hid hon
  have H := Lib.hid (And.intro h1 (And.intro h2 (And.intro hbw hz3)))
  clear hon h1 h2 hbw hz3
  go_enter Tryz.func109, Tryz.ntmps109
  go_wp2_with fail
  refine Hon.out.mono ?_
  rintro e w1 ⟨rfl, hU, hb, hz⟩
  have H2 := Lib.hid (And.intro hU (And.intro hb hz))
  clear hU hb hz hw3
  go_wp2
  go_ret
  obtain ⟨h1, h2, hbw, hz3⟩ := H.out
  obtain ⟨hU, hb, hz⟩ := H2.out
  exact ⟨rfl, hU, ⟨h2.below hb (by omega), h1.below hb (by omega)⟩, hbw.trans (hb.mono (by omega)), by omega⟩

/-! ### pile -/

theorem lv_info : (Tryz.prog.info? 148).map (fun i => (i.zero.map fun z => z.cells.size, i.size, i.bytes)) = some (some 1, 1, 8) := by kernel_rfl

theorem run_appendLv (w : World) (base n : Nat) (v : Value) (xs : List Value) (hown : w.ownsRow base 148 1 v n xs) (g : Nat) (u : Value) (hu : u.oneCell' = true) (hg : Blk w g 148 [u]) (hl : n ≤ 100000) (hbase : base ≤ w.heap.size) (ty : TypeId) :
    ∃ v' w', (Builtin.append_ #[137, 137] ty #[v, .slice (some ⟨g, 0, none⟩) 1 1]).run Tryz.prog w = .ok v' w' ∧ w'.ownsRow base 148 1 v' (n + 1) (xs ++ [u]) ∧ w.grownBy w' v.ownBlock := by
  have h := lv_info
  cases hi : Tryz.prog.info? 148 with
  | none => rw [hi] at h; cases h
  | some i0 =>
    rw [hi] at h
    simp only [Option.map_some, Option.some.injEq, Prod.mk.injEq] at h
    obtain ⟨hz, hz1, hz2⟩ := h
    obtain ⟨z0, hz0, hzc⟩ := Option.map_eq_some_iff.1 hz
    obtain ⟨v', w', h1, h2, h3, _, _⟩ := run_append_own_at (P := Tryz.prog) w base 137 ty 148 i0 z0 1 8 Tryz.underlying137 hi hz0 hz1 hz2 hzc (by decide) v n xs hown ⟨g, 0, none⟩ 1 1 [u]
      rfl (fun j u' hu' => by rw [add_mk, Nat.zero_add]; exact hg.cell hu') (by simp [hu]) (by simp only [maxLen]; omega) (by omega) hbase
    exact ⟨v', w', h1, h2, h3⟩

/-- The levels that stand behind k rounds. -/
structure PileAt (g many : Nat) (lf : Value) (w : World) (k : Nat) (v : Value) (wr : World) (L : Nat → Lv) : Prop where
  row : wr.ownsRow w.heap.size 148 1 v (k + 1) ((List.range (k + 1)).map fun i => fnOf (L i))
  un : ∀ i, i ≤ k → Un wr (L i) (mkOf L i)
  caps : ∀ i, i ≤ k → Caps wr g many lf L i
  ord : ∀ i j, i < j → j ≤ k → ∀ a b, (L i).has a → (L j).has b → a < b
  inn : ∀ i, i ≤ k → ∀ a, (L i).has a → w.heap.size ≤ a ∧ a < wr.heap.size
  bel : Below w.heap.size w wr

theorem lvAt_has {b x y z a : Nat} (h : (lvAt b x y z).has a) : (b ≤ a ∧ a < b + 4) ∨ a = x ∨ a = y ∨ a = z := by
  unfold Lv.has lvAt at h
  simp only at h
  omega

theorem pile_first (g many F : Nat) (cs : Array Value) (w w1 : World) (hU : Un w1 (lvB w.heap.size) (mkB (lvB w.heap.size))) (hC : CapsB w1 g many (.func (.func F) #[] cs) (lvB w.heap.size)) (hb : Below w.heap.size w w1) (hz : w1.heap.size = w.heap.size + 7) :
    PileAt g many (.func (.func F) #[] cs) w 0 (.slice (some ⟨w1.heap.size, 0, none⟩) 1 1) (w1.alloc (.cells #[fnOf (lvB w.heap.size)] 148)) (fun _ => lvB w.heap.size) := by
  have hb1 : Below w1.heap.size w1 (w1.alloc (.cells #[fnOf (lvB w.heap.size)] 148)) := (Below.refl _ _).alloc (Nat.le_refl _) _
  refine ⟨⟨rfl, .inr ⟨_, 1, _, rfl, hb.size, heap_alloc_new w1 _, Nat.le_refl _, by decide, rfl, rfl⟩⟩, fun i hi => ?_, fun i hi => ?_, fun i j hij hj => by omega, fun i hi a ha => ?_, hb.trans (hb1.mono hb.size)⟩
  · obtain rfl : i = 0 := by omega
    exact hU.stay (hb1.block _ hU.p.lt) (hb1.block _ hU.m.lt) (hb1.block _ hU.d.lt) (hb1.block _ hU.e.lt)
  · obtain rfl : i = 0 := by omega
    exact ⟨hC.1.below hb1 hC.1.lt, hC.2.1.below hb1 hC.2.1.lt, hC.2.2.below hb1 hC.2.2.lt⟩
  · have := lvAt_has ha
    rw [World.size_alloc]
    omega

theorem pile_next {g many k : Nat} {lf v v' : Value} {w wr w1 w2 : World} {L : Nat → Lv} (h : PileAt g many lf w k v wr L) (hU : Un w1 (lvA wr.heap.size) (mkA (lvA wr.heap.size))) (hC : CapsA w1 g (fnOf (L k)) (lvA wr.heap.size)) (hb : Below wr.heap.size wr w1) (hz : w1.heap.size = wr.heap.size + 6)
    (hR : w2.ownsRow w.heap.size 148 1 v' (k + 1 + 1) (((List.range (k + 1)).map fun i => fnOf (L i)) ++ [fnOf (lvA wr.heap.size)])) (hg : (w1.alloc (.cells #[fnOf (lvA wr.heap.size)] 148)).grownBy w2 v.ownBlock) :
    PileAt g many lf w (k + 1) v' w2 (fun i => if i = k + 1 then lvA wr.heap.size else L i) := by
  have hv : ∀ b, v.ownBlock = some b → w.heap.size ≤ b ∧ ∃ cs, wr.heap[b]? = some (.cells cs 148 (0, 0)) := fun b hb' => ⟨(World.ownsRow.lt h.row b hb').1, row_block h.row hb'⟩
  have hb1 : Below w1.heap.size w1 (w1.alloc (.cells #[fnOf (lvA wr.heap.size)] 148)) := (Below.refl _ _).alloc (Nat.le_refl _) _
  have e1 : ∀ {b : Nat} {t : TypeId} {l : List Value}, Blk w1 b t l → t ≠ 148 ∨ wr.heap.size ≤ b → w2.heap[b]? = w1.heap[b]? := fun {b t l} hbk hne => (hg.block b (Nat.lt_of_lt_of_le hbk.lt hb1.size) fun e => by
    obtain ⟨_, cs, hcs⟩ := hv b e.symm
    rcases hne with hne | hne
    · have := (hb.block b (by
        rcases Nat.lt_or_ge b wr.heap.size with hh | hh
        · exact hh
        · rw [Array.getElem?_eq_none hh] at hcs; cases hcs)).trans hcs
      unfold Blk at hbk
      rw [this] at hbk
      injection hbk with e2
      injection e2 with _ e2
      exact hne e2.symm
    · rw [Array.getElem?_eq_none hne] at hcs; cases hcs).trans (hb1.block b hbk.lt)
  have e2 : ∀ {b : Nat} {t : TypeId} {l : List Value}, Blk w1 b t l → t ≠ 148 ∨ wr.heap.size ≤ b → Blk w2 b t l := fun {b t l} hbk hne => (e1 hbk hne).trans hbk
  have e3 : ∀ {b : Nat} {t : TypeId} {l : List Value}, Blk wr b t l → t ≠ 148 → Blk w2 b t l := fun {b t l} hbk hne => e2 (hbk.below hb hbk.lt) (.inl hne)
  have hz2 : w1.heap.size ≤ w2.heap.size := by have := hg.size; rw [World.size_alloc] at this; omega
  have hmk : ∀ i, i ≤ k → mkOf (fun i => if i = k + 1 then lvA wr.heap.size else L i) i = mkOf L i := fun i hi => by
    cases i with
    | zero => simp [mkOf]
    | succ i => simp only [mkOf]; rw [if_neg (by omega)]
  refine ⟨?_, fun i hi => ?_, fun i hi => ?_, fun i j hij hj a b ha hb' => ?_, fun i hi a ha => ?_, ?_⟩
  · have el : ((List.range (k + 1 + 1)).map fun i => fnOf (if i = k + 1 then lvA wr.heap.size else L i)) = ((List.range (k + 1)).map fun i => fnOf (L i)) ++ [fnOf (lvA wr.heap.size)] := by
      rw [List.range_succ, List.map_append]
      congr 1
      · refine List.map_congr_left fun i hi => ?_
        rw [List.mem_range] at hi
        rw [if_neg (by omega)]
      · simp
    rw [el]; exact hR
  · by_cases hik : i = k + 1
    · subst hik
      have : mkOf (fun i => if i = k + 1 then lvA wr.heap.size else L i) (k + 1) = mkA (lvA wr.heap.size) := by simp [mkOf]
      rw [this]
      simp only [if_true]
      exact ⟨e2 hU.p (.inl (by decide)), e2 hU.m (.inl (by decide)), e2 hU.d (.inl (by decide)), e2 hU.e (.inl (by decide))⟩
    · rw [hmk i (by omega)]
      simp only [if_neg hik]
      have hu := h.un i (by omega)
      exact ⟨e3 hu.p (by decide), e3 hu.m (by decide), e3 hu.d (by decide), e3 hu.e (by decide)⟩
  · by_cases hik : i = k + 1
    · subst hik
      refine ⟨?_, ?_⟩
      · simp only [if_true, show ¬ k = k + 1 by omega, if_false]
        exact e2 hC.1 (.inr (by show wr.heap.size ≤ wr.heap.size + 1; omega))
      · simp only [if_true]
        exact e2 hC.2 (.inl (by decide))
    · have hc := h.caps i (by omega)
      cases i with
      | zero => exact ⟨by simp only [show ¬ 0 = k + 1 by omega, if_false]; exact e3 hc.1 (by decide), by simp only [show ¬ 0 = k + 1 by omega, if_false]; exact e3 hc.2.1 (by decide), by simp only [show ¬ 0 = k + 1 by omega, if_false]; exact e3 hc.2.2 (by decide)⟩
      | succ i =>
        have hi2 : ¬ i = k + 1 := by omega
        refine ⟨?_, by simp only [if_neg hik]; exact e3 hc.2 (by decide)⟩
        simp only [if_neg hik, if_neg hi2]
        -- the captured level lies in a block of its own, no row of levels
        have hb0 := hc.1
        refine (hg.block _ (by have := hb0.lt; have := hb.size; have := hb1.size; omega) fun e => ?_).trans ((hb1.block _ (by have := hb0.lt; have := hb.size; omega)).trans ((hb.block _ hb0.lt).trans hb0))
        obtain ⟨h1, ⟨_, h2⟩ | ⟨g', cap, cur, hv', _, hg', hn, _, hcs, _⟩⟩ := h.row
        · omega
        · rw [hv'] at e
          simp [Value.ownBlock] at e
          subst e
          unfold Blk at hb0
          rw [hb0] at hg'
          injection hg' with e1
          injection e1 with e1 _
          rw [← e1] at hcs
          simp at hcs
          omega
  · have hLi : ∀ i, i ≤ k → (if i = k + 1 then lvA wr.heap.size else L i) = L i := fun i hi => by rw [if_neg (by omega)]
    by_cases hjk : j = k + 1
    · subst hjk
      simp only [if_true] at hb'
      have ha' : (L i).has a := by have := ha; simp only [hLi i (by omega)] at this; exact this
      have := (h.inn i (by omega) a ha').2
      have := lvAt_has hb'
      omega
    · have ha' : (L i).has a := by have := ha; simp only [hLi i (by omega)] at this; exact this
      have hb2 : (L j).has b := by have := hb'; simp only [hLi j (by omega)] at this; exact this
      exact h.ord i j hij (by omega) a b ha' hb2
  · by_cases hik : i = k + 1
    · subst hik
      simp only [if_true] at ha
      have := lvAt_has ha
      have := h.bel.size
      omega
    · simp only [if_neg hik] at ha
      have := h.inn i (by omega) a ha
      have := hb.size
      omega
  · exact (h.bel.trans (hb.mono h.bel.size)).trans ((hb1.mono (by have := h.bel.size; omega))) |>.grown hg (by have := h.bel.size; have := hb.size; rw [World.size_alloc]; omega) fun b hb' => (hv b hb').1

end Go.Proofs.YtfaeechidjpjbaaGreat

namespace Go.Proofs.YtfaeechidjpjbaaGreat

open Go.RowKit Go.Maps

set_option linter.unusedVariables false

/-- What pile leaves behind. -/
def PileP (g many : Nat) (lf : Value) (w : World) (e : Ending) (w' : World) : Prop :=
  ∃ L lv c, e = .returned (.slice (some ⟨lv, 0, none⟩) (dep many) c) ∧ PileAt g many lf w (dep many - 1) (.slice (some ⟨lv, 0, none⟩) (dep many) c) w' L ∧ dep many ≤ c ∧ c ≤ maxLen

theorem range_cell {w : World} {base lv n c : Nat} {f : Nat → Value} (h : w.ownsRow base 148 1 (.slice (some ⟨lv, 0, none⟩) n c) n ((List.range n).map f)) {i : Nat} (hi : i < n) : w.cell? ⟨lv, i, none⟩ = some (f i) := by
  rw [World.ownsRow.cellAt h i (by omega), List.getElem?_map, List.getElem?_range hi]; rfl

set_option maxRecDepth 100000 in
set_option maxHeartbeats 1600000 in
theorem pile_any (g many F : Nat) (cs : Array Value) (w : World) (h1 : 1 ≤ many) (h2 : many ≤ 1024) : Calls Tryz.prog 94 #[.pointer (some ⟨g, 0, none⟩), .int .i64 (many : Int), .func (.func F) #[] cs] w (PileP g many (.func (.func F) #[] cs) w) := by
  go_enter Tryz.func94, Tryz.ntmps94
  go_wp2_with fail
  refine (bottom_any g many F cs w).mono ?_
  rintro e w1 ⟨rfl, hU, hC, hb, hz⟩
  have hP0 := pile_first g many F cs w w1 hU hC hb hz
  have H := Lib.hid hP0
  clear hU hC hb hz hP0
  unfold fnOf ptr
  go_wp2
  go_loopw [1, 7] (fun m v wr => ∃ (k : Nat) (L : Nat → Lv), k + 1 ≤ dep many ∧ m = .int .i64 ((wid many k : Nat) : Int) ∧ PileAt g many (.func (.func F) #[] cs) w k v wr L) (fun m _ _ => (intOf m).toNat)
  case atStart => exact ⟨0, _, dep_pos many, rfl, H.out⟩
  case round =>
    obtain ⟨k, L, hk, rfl, hP⟩ := hrel
    obtain ⟨lv, c, rfl, hkc, hcm⟩ : ∃ lv c, u7 = .slice (some ⟨lv, 0, none⟩) (k + 1) c ∧ k + 1 ≤ c ∧ c ≤ maxLen := by
      rcases hP.row.2 with ⟨_, e⟩ | ⟨lv, c, _, e, _, _, h3, h4, _⟩
      · omega
      · exact ⟨lv, c, e, h3, h4⟩
    obtain ⟨m, hm⟩ : ∃ m, wid many k = m := ⟨_, rfl⟩
    have hmw : wid many (k + 1) = (m + 3) / 4 := by rw [wid, hm]
    have hm1 : 1 ≤ m := by rw [← hm]; exact wid_pos h1 k
    have hm2 : m ≤ 1024 := by rw [← hm]; exact Nat.le_trans (wid_le many k h1) h2
    rw [hm]
    have hk6 : k + 1 ≤ 6 := Nat.le_trans hk (dep_le h2)
    have hck : wr.cell? ⟨lv, k, none⟩ = some (fnOf (L k)) := range_cell hP.row (by omega)
    by_cases hlt : 1 < m
    · have hk1 : k + 1 + 1 ≤ dep many := by
        rcases Nat.lt_or_ge (k + 1) (dep many) with h | h
        · omega
        · have := wid_last h1 (show k + 1 = dep many by omega); omega
      have hab := above_make g 135 #[ptr (L k).p, ptr (L k).m, ptr (L k).d, ptr (L k).e] wr
      have hb1 : (1 : Int) < (m : Int) := by omega
      unfold fnOf ptr at hck
      unfold ptr at hab
      have Hab := Lib.hid hab
      have H2 := Lib.hid (And.intro hP (And.intro hk (And.intro hm (And.intro hmw (And.intro hk1 (And.intro hkc hcm))))))
      clear hab hP hk hm hmw hk1 hkc hcm
      go_wp2_with fail
      refine Hab.out.mono ?_
      rintro e w1 ⟨rfl, hU, hC, hb, hz⟩
      obtain ⟨hP, hk, hm, hmw, hk1, hkc, hcm⟩ := H2.out
      have hb1 : Below w1.heap.size w1 (w1.alloc (.cells #[fnOf (lvA wr.heap.size)] 148)) := (Below.refl _ _).alloc (Nat.le_refl _) _
      have hrow : (w1.alloc (.cells #[fnOf (lvA wr.heap.size)] 148)).ownsRow w.heap.size 148 1 (.slice (some ⟨lv, 0, none⟩) (k + 1) c) (k + 1) ((List.range (k + 1)).map fun i => fnOf (L i)) := row_stay hP.row fun b cs' hb' hc' => by
        have hlt : b < wr.heap.size := by
          rcases Nat.lt_or_ge b wr.heap.size with h | h
          · exact h
          · rw [Array.getElem?_eq_none h] at hc'; cases hc'
        exact (hb1.block b (Nat.lt_of_lt_of_le hlt hb.size)).trans (hb.block b hlt)
      obtain ⟨v', w2, hap, hR2, hg2⟩ := run_appendLv (w1.alloc (.cells #[fnOf (lvA wr.heap.size)] 148)) w.heap.size (k + 1) _ _ hrow w1.heap.size (fnOf (lvA wr.heap.size)) rfl (Blk.new rfl rfl) (by omega) (by have := hP.bel.size; have := hb.size; have := hb1.size; omega) 137
      have hPn := pile_next hP hU hC hb hz hR2 hg2
      unfold fnOf ptr at hap
      have H3 := Lib.hid (And.intro hPn hap)
      clear hP hk hm hmw hk1 hkc hcm hb1 hrow hR2 hg2 hPn hU hC hb hz hap
      unfold fnOf ptr
      go_wp2_with (at_builtin; refine Lib.wpList_append_run _ rfl _ _ _ _ rfl _ _ rfl rfl _ _ H3.out.2 ?_)
      go_roundw
      case rel => exact ⟨k + 1, _, H2.out.2.2.2.2.1, by rw [H2.out.2.2.2.1]; congr 1; omega, H3.out.1⟩
      case measure => simp [intOf]; omega
    · have hkd : k + 1 = dep many := by
        rcases Nat.lt_or_ge (k + 1) (dep many) with h | h
        · have := wid_more h1 h; omega
        · omega
      have hb1 : ¬ (1 : Int) < (m : Int) := by omega
      have H2 := Lib.hid (And.intro hP (And.intro hkd (And.intro hkc hcm)))
      clear hP hkd hkc hcm hk hm hmw hck
      go_wp2
      go_ret
      obtain ⟨hP, hkd, hkc, hcm⟩ := H2.out
      rw [show k = dep many - 1 by omega] at hP
      refine ⟨L, lv, c, by rw [hkd]; rfl, ?_, by omega, hcm⟩
      have e : dep many - 1 + 1 = dep many := by omega
      rw [e] at hP
      exact hP

/-! ### Small ones -/

theorem isCount_yes (n : Int) (w : World) (h1 : 1 ≤ n) (h2 : n ≤ 1024) : Calls Tryz.prog 91 #[.int .i64 n] w fun e w' => e = .returned (.bool true) ∧ w' = w := by
  go_enter Tryz.func91, Tryz.ntmps91
  go_wp2
  go_ret
  exact ⟨by simp, rfl⟩

theorem isCount_no (n : Int) (w : World) (h : n < 1 ∨ 1024 < n) : Calls Tryz.prog 91 #[.int .i64 n] w fun e w' => e = .returned (.bool false) ∧ w' = w := by
  rcases h with h | h
  · have h1 : ¬ (1 : Int) ≤ n := by omega
    go_enter Tryz.func91, Tryz.ntmps91
    go_wp2
    go_ret
    exact ⟨by simp, rfl⟩
  · have h1 : (1 : Int) ≤ n := by omega
    have h2 : ¬ n ≤ 1024 := by omega
    go_enter Tryz.func91, Tryz.ntmps91
    go_wp2
    go_ret
    exact ⟨by simp, rfl⟩

end Go.Proofs.YtfaeechidjpjbaaGreat

namespace Go.Proofs.YtfaeechidjpjbaaGreat

open Go.RowKit Go.Maps

set_option linter.unusedVariables false

/-- The last level has been asked: it has the digest d alone; Q of the world. -/
def LastP (z : Nat) (d : Dg) (Q : World → Prop) (e : Ending) (w1 : World) : Prop :=
  ∃ r c, e = .returned (.tuple #[.slice (some ⟨r, 0, none⟩) 1 c, .int .i64 0]) ∧ Ds w1 (some ⟨r, 0, none⟩) [d] ∧ Blk w1 z 59 (cbs (List.replicate 32 0)) ∧ Q w1

def RootP (z : Nat) (d : Dg) (Q : World → Prop) (e : Ending) (w' : World) : Prop :=
  ∃ w1, e = .returned (.tuple #[.agg (cbs d).toArray, .int .i64 0]) ∧ Q w1 ∧ w' = w1.setCells z 0 (cbs d) ∧ Blk w1 z 59 (cbs (List.replicate 32 0))

set_option maxRecDepth 100000 in
set_option maxHeartbeats 800000 in
theorem rootOf_any (lv n c : Nat) (l : Lv) (Q : World → Prop) (d : Dg) (hd : d.length = 32) (w : World) (hn : n + 1 ≤ 6) (hnc : n + 1 ≤ c) (hc : w.cell? ⟨lv, n, none⟩ = some (fnOf l))
    (hcall : Calls Tryz.prog 135 #[ptr l.p, ptr l.m, ptr l.d, ptr l.e] (w.alloc (.cells (cbs (List.replicate 32 0)).toArray 59)) (LastP w.heap.size d Q)) :
    Calls Tryz.prog 93 #[.slice (some ⟨lv, 0, none⟩) (n + 1) c] w (RootP w.heap.size d Q) := by
  obtain ⟨D, hD⟩ : ∃ D, cbs d = D := ⟨_, rfl⟩
  have hD32 : D.length = 32 := by rw [← hD, cbs_length, hd]
  have hD1 : D.toArray.all (·.oneCell') = true := by rw [← hD]; exact cbs_one' _
  have hlt : lv < w.heap.size := World.block_lt_of_cell? w _ hc
  unfold fnOf ptr at hc
  unfold ptr at hcall
  have Hc := Lib.hid hcall
  have HD := Lib.hid (And.intro hD (And.intro hD32 (And.intro hD1 hd)))
  clear hcall hD hD32 hD1 hd
  go_enter Tryz.func93, Tryz.ntmps93
  go_wp2_with fail
  refine Hc.out.mono ?_
  rintro e w1 ⟨r, c1, rfl, hDs, hZ, hQ⟩
  obtain ⟨hD, hD32, hD1, hd⟩ := HD.out
  obtain ⟨b, off, e1, hb, hr⟩ := hDs.at_ (fun x hx => by simp at hx; rw [hx]; exact hd) (i := 0) (by simp)
  cases e1
  rw [Nat.zero_add, Nat.zero_mul] at hr
  have hr' : w1.rangeAt r 0 D := by rw [← hD]; exact hr
  have hsD : D.toArray.size = 32 := by rw [List.size_toArray]; exact hD32
  have hth : w1.there w.heap.size 0 D.toArray.size := by
    have e := hZ.there
    rw [cbs_length, List.length_replicate] at e
    rw [hsD]; exact e
  have hi : (Tryz.prog.info? 59).map (·.size) = some D.toArray.size := by rw [hsD]; exact info32b
  have hi' : (Tryz.prog.info? 59).map (·.size) = some D.length := by rw [hD32]; exact info32b
  have hR := hZ.setAll (vs := D) (by rw [hD32, cbs_length, List.length_replicate])
  have H := Lib.hid (And.intro hr' (And.intro hth (And.intro hi (And.intro hi' (And.intro hR (And.intro hQ (And.intro hZ (And.intro hD hD1))))))))
  clear hr' hr hth hi hi' hR hQ hZ hDs hsD hD hD32 hD1 hd
  go_wp2_with (first
    | (refine wpList_load_mid rfl 59 _ rfl r 0 rfl D _ H.out.1 Tryz.underlying59 rfl H.out.2.2.2.1 ?_; simp only [Act.put])
    | (refine wpList_store_mid rfl 59 _ _ rfl w.heap.size 0 D.toArray rfl rfl H.out.2.1 H.out.2.2.1 H.out.2.2.2.2.2.2.2.2 ?_))
  refine bodyPost_ret (results_row_tmp3 rfl _ _ w.heap.size 59 D.toArray (0, 0) _ rfl H.out.2.2.2.2.1 Tryz.underlying59 rfl H.out.2.2.1) rfl ?_
  exact ⟨w1, by rw [H.out.2.2.2.2.2.2.2.1]; rfl, H.out.2.2.2.2.2.1, by rw [H.out.2.2.2.2.2.2.2.1], H.out.2.2.2.2.2.2.1⟩

end Go.Proofs.YtfaeechidjpjbaaGreat

namespace Go.Proofs.YtfaeechidjpjbaaGreat

open Go.RowKit Go.Maps

set_option linter.unusedVariables false

def rootD (low : List Dg) : Dg := (lvl low (dep low.length - 1)).headD []

theorem root_one {low : List Dg} (h1 : 1 ≤ low.length) : lvl low (dep low.length - 1) = [rootD low] := by
  have hd := dep_pos low.length
  have hl : (lvl low (dep low.length - 1)).length = 1 := by rw [lvl_len]; exact wid_last h1 (by omega)
  unfold rootD
  generalize lvl low (dep low.length - 1) = l at *
  match l, hl with
  | [x], _ => rfl

theorem root_len {low : List Dg} (h1 : 1 ≤ low.length) (h32 : All32 low) : (rootD low).length = 32 := by
  have := all32_lvl h32 (dep low.length - 1)
  rw [root_one h1] at this
  exact this _ (by simp)

theorem Out.setRow {S : Nat → Prop} {a : World} {x : Nat} (hx : S x) (vs : List Value) : ∀ {w : World} {o : Nat}, Out S a w → Out S a (w.setCells x o vs) := by
  induction vs with
  | nil => intro w o h; exact h
  | cons v vs ih => intro w o h; rw [World.setCells]; exact ih (h.setCell (p := ⟨x, o, none⟩) (fun _ => hx) v)

section

variable {B g bm : Nat} {s : Bk} {ls : List (List UInt8)} {lf : Value} {L : Nat → Lv} {R : Nat → Nat × Nat} {n : Nat} {w wB w1 w' : World} {N N2 : Nat → Prop}

theorem Post.back (h : Post B g bm s ls L n wB N2 R w1) (hL : ∀ i, i ≤ n → ∀ a, (L i).has a → a < w.heap.size) (hb : Below w.heap.size w wB) (hN : ∀ i, N i → N2 i) (hN' : ∀ i, i < w.heap.size → N2 i → N i) {x : Nat → Prop} (ho : Out x w1 w') (hz : w'.heap.size = w1.heap.size)
    (hx : ∀ i, x i → w.heap.size ≤ i ∧ i < wB.heap.size ∧ N2 i) : Post B g bm s ls L n w N R w' := by
  have k : ∀ i, i < w1.heap.size → ¬ x i → w'.heap[i]? = w1.heap[i]? := ho.block
  have hzB := hb.size
  have hz1 := h.out.size
  refine ⟨fun i hi => ?_, fun i hi => Nat.le_trans hb.size (h.new i hi), h.inc, ?_, ?_⟩
  · have hd := h.dn i hi
    have key : ∀ a, (L i).has a → w'.heap[a]? = w1.heap[a]? := fun a ha => k a (by have := hL i hi a ha; omega) fun e => by have := hx a e; have := hL i hi a ha; omega
    exact hd.stay (key _ (by simp [Lv.has])) (key _ (by simp [Lv.has])) (key _ (by simp [Lv.has])) (k _ (row_lt hd.row) fun e => by have := hx _ e; have := h.new i hi; omega)
  · refine (h.kb.other (w' := w') (by omega) (fun i hi hn => k i hi fun e => hn (.inl (hx i e).2.2)) fun i hi => .inl hi).less fun i hi => ?_
    rcases hi with hi | hi
    · exact .inl (hN i hi)
    · exact .inr hi
  · have o1 : Out (fun i => Tn B bm w N i ∨ TT L n i) w w1 := (Out.ofBelow (fun i => Tn B bm w N i ∨ TT L n i) hb).trans h.out fun i hi hs => by
      rcases hs with hs | hs
      · refine .inl ⟨hs.1, fun e => hs.2.1 (hN i e), ?_⟩
        rcases hs.2.2 with e | ⟨cs, t, fr, hc'⟩
        · exact .inl e
        · exact .inr ⟨cs, t, fr, (hb.block i hi).symm.trans hc'⟩
      · exact .inr hs
    exact o1.trans ho fun i hi hs => by have := hx i hs; omega

end

theorem rootOf_first (B g bm F : Nat) (s : Bk) (ls : List (List UInt8)) (caps : List Value) (lf : Value) (L : Nat → Lv) (K : Nat → Prop) (w : World) (N : Nat → Prop) (lv c : Nat) (h1 : 1 ≤ ls.length) (h2 : ls.length ≤ 1024)
    (IH : AskOK B g bm s ls F caps lf L K (dep ls.length - 1)) (h : Pre B g bm s ls lf L (dep ls.length - 1) w N) (hlf : Lf B F caps ls L (dep ls.length - 1) K w N) (hc : w.cell? ⟨lv, dep ls.length - 1, none⟩ = some (fnOf (L (dep ls.length - 1)))) (hdc : dep ls.length ≤ c) :
    Calls Tryz.prog 93 #[.slice (some ⟨lv, 0, none⟩) (dep ls.length) c] w fun e w' => ∃ R, e = .returned (.tuple #[.agg (cbs (rootD (lows ls))).toArray, .int .i64 0]) ∧ Post B g bm s ls L (dep ls.length - 1) w N R w' := by
  have hd1 := dep_pos ls.length
  have hd6 := dep_le h2
  obtain ⟨n, hn⟩ : ∃ n, dep ls.length = n + 1 := ⟨dep ls.length - 1, by omega⟩
  have hr1 : lvl (lows ls) n = [rootD (lows ls)] := by
    have := root_one (low := lows ls) (by rw [lows_len]; exact h1)
    rwa [lows_len, hn] at this
  rw [hn] at IH h hlf hc hdc ⊢
  simp only [Nat.add_sub_cancel] at IH h hlf hc ⊢
  have hb : Below w.heap.size w (w.alloc (.cells (cbs (List.replicate 32 0)).toArray 59)) := (Below.refl _ _).alloc (Nat.le_refl _) _
  have hZ : Blk (w.alloc (.cells (cbs (List.replicate 32 0)).toArray 59)) w.heap.size 59 (cbs (List.replicate 32 0)) := Blk.new rfl rfl
  have hask := IH (w.alloc (.cells (cbs (List.replicate 32 0)).toArray 59)) (fun i => N i ∨ i = w.heap.size) (h.below hb (fun i hi => by
    rcases hi with hi | rfl
    · exact .inl hi
    · exact .inr ⟨Nat.le_refl _, by simp⟩) fun i hi => .inl hi) (hlf.below hb fun i hi => .inl hi)
  have hLlt : ∀ i, i ≤ n → ∀ a, (L i).has a → a < w.heap.size := fun i hi a ha => h.kb.lt (h.inN i hi a ha)
  refine (rootOf_any lv n c (L n) (fun w1 => ∃ R, Post B g bm s ls L n (w.alloc (.cells (cbs (List.replicate 32 0)).toArray 59)) (fun i => N i ∨ i = w.heap.size) R w1) (rootD (lows ls)) (root_len (by rw [lows_len]; exact h1) (all32_lows ls)) w (by omega) hdc hc (hask.mono ?_)).mono ?_
  · rintro e w1 ⟨R, rfl, hP⟩
    refine ⟨(R n).1, (R n).2, by rw [hr1]; rfl, ?_, ?_, R, hP⟩
    · have := (hP.dn n (Nat.le_refl _)).ds
      rwa [hr1] at this
    · refine hP.out.blk hZ fun e => ?_
      rcases e with e | ⟨j, hj, ht⟩
      · exact e.2.1 (.inr rfl)
      · have := hLlt j hj _ (Lv.turn_has ht); omega
  · rintro e w' ⟨w1, rfl, ⟨R, hP⟩, rfl, hZ1⟩
    refine ⟨R, rfl, hP.back (x := fun i => i = w.heap.size) hLlt hb (fun i hi => .inl hi) (fun i hi hN => by
      rcases hN with hN | rfl
      · exact hN
      · omega) ?_ (size_cells3 _ _ _ _) (fun i hi => by subst hi; exact ⟨Nat.le_refl _, by simp, .inr rfl⟩)⟩
    exact Out.setRow (S := fun i => i = w.heap.size) rfl _ (Out.refl _ _)

end Go.Proofs.YtfaeechidjpjbaaGreat

namespace Go.Proofs.YtfaeechidjpjbaaGreat

open Go.RowKit Go.Maps

set_option linter.unusedVariables false

theorem load_mid_g {P : Program} {ops : Array Oper} {rest : List Oper} {o : Oper} {a : Act} {w : World} {Q : Exit → Act → World → Prop} (hw : Region.wanted o (yielded ops a.tmps) = true) (ty : TypeId) (x : Operand) (ho : o.op = .load ty x)
    (b k : Nat) (hx : a.eval x = .pointer (some ⟨b, k, none⟩)) (cs : List Value) (d : TypeDesc) (hc : w.rangeAt b k cs)
    (hu : P.underlying ty = some d) (hd : d.isRow = true) (hi : (P.info? ty).map (·.size) = some cs.length)
    (h : wpList P ops Q rest (a.put o.dst (.agg cs.toArray)) w) : wpList P ops Q (o :: rest) a w :=
  wpList_step fun K hK => by rw [if_pos hw]; exact wp_load_mid ty x ho b k hx cs d hc hu hd hi (hK _ _ h)

theorem eq_self (D : List Value) (l : List UInt8) (h : cbs l = D) (hl : l.length = 32) (w : World) : (Op.equalIn 10000 59 (.agg D.toArray) (.agg D.toArray)).run Tryz.prog w = .ok true w := by
  subst h
  have := eq_digests w l l hl hl
  rw [this]; simp

theorem kb_clash {B g m : Nat} {w : World} {s : Bk} {N : Nat → Prop} (h : Kb B w g m s N) : Calls Tryz.prog 38 #[.pointer (some ⟨g, 0, none⟩)] w fun e w' => e = .returned (.bool s.2.1) ∧ w' = w := by
  obtain ⟨S, h, _⟩ := h
  exact bclash_any g m _ _ _ w h.1

theorem pile_pre {B g bm many : Nat} {s : Bk} {ls : List (List UInt8)} {lf v : Value} {w w2 : World} {k : Nat} {L : Nat → Lv} {N N2 : Nat → Prop} (hm : many = ls.length) (h : PileAt g many lf w k v w2 L) (hk : Kb B w g bm s N) (hB : B ≤ w.heap.size)
    (hN : ∀ i, N2 i ↔ N i ∨ (w.heap.size ≤ i ∧ i < w2.heap.size)) : Pre B g bm s ls lf L k w2 N2 := by
  subst hm
  exact ⟨hk.belowN h.bel fun i hi => (hN i).1 hi, Nat.le_trans hB h.bel.size, h.un, h.caps, fun i hi a ha => (hN a).2 (.inr (h.inn i hi a ha)), h.ord⟩

theorem PileAt.below {g many : Nat} {lf v : Value} {w w2 w3 : World} {k : Nat} {L : Nat → Lv} (h : PileAt g many lf w k v w2 L) (hb : Below w2.heap.size w2 w3) : PileAt g many lf w k v w3 L := by
  have e : ∀ i, i ≤ k → ∀ a, (L i).has a → w3.heap[a]? = w2.heap[a]? := fun i hi a ha => hb.block a (h.inn i hi a ha).2
  exact ⟨row_stay h.row fun b cs _ hc => hb.block b (by
      rcases Nat.lt_or_ge b w2.heap.size with hh | hh
      · exact hh
      · rw [Array.getElem?_eq_none hh] at hc; cases hc),
    fun i hi => (h.un i hi).stay (e i hi _ (by simp [Lv.has])) (e i hi _ (by simp [Lv.has])) (e i hi _ (by simp [Lv.has])) (e i hi _ (by simp [Lv.has])), fun i hi => (h.caps i hi).stay (e i hi), h.ord,
    fun i hi a ha => ⟨(h.inn i hi a ha).1, Nat.lt_of_lt_of_le (h.inn i hi a ha).2 hb.size⟩, h.bel.trans (hb.mono h.bel.size)⟩

end Go.Proofs.YtfaeechidjpjbaaGreat

namespace Go.Proofs.YtfaeechidjpjbaaGreat

open Go.RowKit Go.Maps

set_option linter.unusedVariables false

/-- Leaves as a list of slices that lies in blocks of K. -/
def LvsAt (w : World) (K : Nat → Prop) (A : Option Addr) (ls : List (List UInt8)) : Prop :=
  ∃ b off, A = some ⟨b, off, none⟩ ∧ K b ∧ ∀ j (hj : j < ls.length), ∃ Aj cj, w.cell? ⟨b, off + j, none⟩ = some (.slice Aj ls[j].length cj) ∧ ls[j].length ≤ cj ∧ cj ≤ maxLen ∧ Bs w Aj ls[j] ∧ ∀ a, Aj = some a → ls[j] ≠ [] → K a.block

theorem Bs.stays {w w' : World} {K : Nat → Prop} {A : Option Addr} {x : List UInt8} (h : Bs w A x) (hs : Stays K w w') (hK : ∀ a, A = some a → x ≠ [] → K a.block) : Bs w' A x := by
  refine ⟨h.1, fun hp => ?_⟩
  obtain ⟨b, off, e, hb, hc⟩ := h.2 hp
  have hk := hK _ e (fun e => by rw [e] at hp; simp at hp)
  exact ⟨b, off, e, Nat.lt_of_lt_of_le hb hs.1, fun j u hu => (World.cell?_of_block (hs.2 b hk)).trans (hc j u hu)⟩

theorem LvsAt.stays {w w' : World} {K : Nat → Prop} {A : Option Addr} {ls : List (List UInt8)} (h : LvsAt w K A ls) (hs : Stays K w w') : LvsAt w' K A ls := by
  obtain ⟨b, off, e, hb, hc⟩ := h
  refine ⟨b, off, e, hb, fun j hj => ?_⟩
  obtain ⟨Aj, cj, h1, h2, h3, h4, h5⟩ := hc j hj
  exact ⟨Aj, cj, (World.cell?_of_block (hs.2 b hb)).trans h1, h2, h3, h4.stays hs h5, h5⟩

theorem LvsAt.more {w : World} {K K' : Nat → Prop} {A : Option Addr} {ls : List (List UInt8)} (h : LvsAt w K A ls) (hK : ∀ j, K j → K' j) : LvsAt w K' A ls := by
  obtain ⟨b, off, e, hb, hc⟩ := h
  refine ⟨b, off, e, hK _ hb, fun j hj => ?_⟩
  obtain ⟨Aj, cj, h1, h2, h3, h4, h5⟩ := hc j hj
  exact ⟨Aj, cj, h1, h2, h3, h4, fun a e hn => hK _ (h5 a e hn)⟩

set_option maxRecDepth 100000 in
theorem ofLeaf_any {w : World} {lb i : Nat} {n c : Nat} {A : Option Addr} {b off : Nat} {Aj : Option Addr} {m cj : Nat} (hb : Blk w lb 23 [.slice A n c]) (hA : A = some ⟨b, off, none⟩) (hi : i < n) (hn : n ≤ 1024) (hc : w.cell? ⟨b, off + i, none⟩ = some (.slice Aj m cj)) :
    Calls Tryz.prog 95 #[.int .i64 (i : Int), .pointer (some ⟨lb, 0, none⟩)] w fun e w' => e = .returned (.slice Aj m cj) ∧ w' = w := by
  subst hA
  have h0 : w.cell? ⟨lb, 0, none⟩ = some (.slice (some ⟨b, off, none⟩) n c) := hb.cell rfl
  have i0 : (0 : Int) ≤ (i : Int) := by omega
  have i1 : (i : Int) < (n : Int) := by omega
  clear hb
  go_enter Tryz.func95, Tryz.ntmps95
  go_wp2
  go_ret
  exact ⟨rfl, rfl⟩

theorem ofLeaf_at {w : World} {lb n c : Nat} {A : Option Addr} {K : Nat → Prop} {ls : List (List UInt8)} (hb : Blk w lb 23 [.slice A n c]) (hl : LvsAt w K A ls) (hn : ls.length = n) (hn2 : n ≤ 1024) (hK : K lb) : LeafAt 95 [.pointer (some ⟨lb, 0, none⟩)] w K ls := fun w' hs i hi => by
  obtain ⟨b, off, e, hkb, hc⟩ := hl.stays hs
  obtain ⟨Aj, cj, h1, h2, h3, h4, h5⟩ := hc i hi
  exact ⟨Aj, cj, ofLeaf_any ((hs.2 lb hK).trans hb) e (by omega) hn2 h1, h4, h2, h3⟩

set_option maxRecDepth 100000 in
theorem idx_none {w : World} {n c : Nat} {A : Option Addr} {K : Nat → Prop} {ls : List (List UInt8)} (hl : LvsAt w K A ls) (hn : ls.length = n) (hn2 : n ≤ 1024) (hls : ∀ x ∈ ls, x.length ≤ 65535) :
    Calls Tryz.prog 98 #[.slice A n c, .func (.func 92) #[] #[]] w fun e w' => e = .returned (.int .i64 (-1)) ∧ w' = w := by
  obtain ⟨b, off, rfl, hkb, hc⟩ := hl
  have H := Lib.hid hc
  have Hls := Lib.hid hls
  clear hc hls hkb
  go_enter Tryz.func98, Tryz.ntmps98
  go_wp2
  go_loopw [5, 8] (fun _ iv wr => ∃ k : Nat, k ≤ n ∧ iv = .int .i64 (k : Int) ∧ wr = w) (fun _ iv _ => n - (intOf iv).toNat)
  case atStart => exact ⟨0, Nat.zero_le _, rfl, rfl⟩
  case round =>
    obtain ⟨k, hk, rfl, rfl⟩ := hrel
    by_cases hlt : k < n
    · obtain ⟨Aj, cj, h1, h2, h3, h4, h5⟩ := H.out k (by omega)
      have hx : (ls[k]'(by omega)).length ≤ 65535 := Hls.out _ (List.getElem_mem _)
      obtain ⟨m, hm⟩ : ∃ m, (ls[k]'(by omega)).length = m := ⟨_, rfl⟩
      rw [hm] at h1 hx
      have Hno := Lib.hid (isLong_no Aj m cj wr hx)
      have i0 : (0 : Int) ≤ (k : Int) := by omega
      have i1 : (k : Int) < (n : Int) := by omega
      clear h2 h3 h4 h5 hx hm
      go_wp2_with (go_at_call 92; refine Hno.out.mono ?_; rintro e w' ⟨rfl, rfl⟩)
      go_roundw
      case rel => exact ⟨k + 1, by omega, by go_num, trivial⟩
      case measure => simp [intOf]; omega
    · have i1 : ¬ (k : Int) < (n : Int) := by omega
      go_wp2
      go_ret
      exact ⟨rfl, rfl⟩

theorem contains_none {w : World} {n c : Nat} {A : Option Addr} {K : Nat → Prop} {ls : List (List UInt8)} (hl : LvsAt w K A ls) (hn : ls.length = n) (hn2 : n ≤ 1024) (hls : ∀ x ∈ ls, x.length ≤ 65535) :
    Calls Tryz.prog 71 #[.slice A n c, .func (.func 92) #[] #[]] w fun e w' => e = .returned (.bool false) ∧ w' = w := by
  have Hi := Lib.hid (idx_none (c := c) hl hn hn2 hls)
  clear hl hls
  go_enter Tryz.func71, Tryz.ntmps71
  go_wp2_with (go_at_call 98; refine Hi.out.mono ?_; rintro e w' ⟨rfl, rfl⟩)
  go_ret
  exact ⟨rfl, rfl⟩

end Go.Proofs.YtfaeechidjpjbaaGreat
