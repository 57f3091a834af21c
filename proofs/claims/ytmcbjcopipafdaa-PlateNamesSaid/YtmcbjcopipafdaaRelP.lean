/-
  The plate of the code and the document's plate tell the same; nothing of the program.
-/
import Derived.Test.YtmcbjcopipafdaaRefN
namespace Go.Proofs.Ytmcbjcopipafdaa
set_option linter.unusedVariables false

structure Same (P : Pl) (R : Rm) : Prop where
  s : R.S = P.st
  v : R.V = (List.range P.st.length).map (seenAt P.st P.wt)
  b : R.B = P.wt.map Option.isSome
  d : R.dead = P.dead
  f : R.fails = decide (P.ah ≠ -1)
  l : P.ah ≠ -1 → R.left = P.ah
  k : P.ah ≠ -1 → R.K.take P.st.length = P.kp

theorem rnk_succ (wt : Wt) {i : Nat} (hi : i < wt.length) : rnk wt (i + 1) = rnk wt i + (if wt[i].isSome then 1 else 0) := by
  unfold rnk
  rw [List.take_succ_eq_append_getElem hi, wk_append, List.length_append]
  split <;> simp
theorem Same.vget {P : Pl} {R : Rm} (h : Same P R) {i : Nat} (hi : i < P.st.length) : R.V[i]? = some (seenAt P.st P.wt i) := by rw [h.v, List.getElem?_map, List.getElem?_range hi]; rfl
theorem Same.bget {P : Pl} {R : Rm} (h : Same P R) {i : Nat} (hi : i < P.wt.length) : R.B[i]? = some P.wt[i].isSome := by rw [h.b, List.getElem?_map, List.getElem?_eq_getElem hi]; rfl
theorem seen_none (st : List (List UInt8)) (wt : Wt) {i : Nat} (h : ∀ x, wt[i]? ≠ some (some x)) : seenAt st wt i = st[i]?.getD [] := by
  unfold seenAt pickW
  rcases hx : wt[i]? with _ | _ | x
  · rfl
  · rfl
  · exact absurd hx (h x)

structure GoneI (P : Pl) (R : Rm) (kp : List Bool) (i : Nat) (T : Rm × Nat) : Prop where
  s : ∀ j, T.1.S[j]? = if j < i then (mixA (keepF kp) P.st P.wt)[j]? else P.st[j]?
  v : ∀ j, T.1.V[j]? = if j < i then (mixA (keepF kp) P.st P.wt)[j]? else R.V[j]?
  b : ∀ j, T.1.B[j]? = if j < i then some false else R.B[j]?
  r : T.2 = rnk P.wt i
  l : T.1.left = R.left
  k : T.1.K = R.K
theorem gone_steps {P : Pl} {R : Rm} (hw : Wl P) (h : Same P R) (kp : List Bool) (i : Nat) (hi : i ≤ P.st.length) : GoneI P R kp i (goneN R kp i) := by
  induction i with
  | zero => exact ⟨fun j => by simp [goneN, h.s], fun j => by simp [goneN], fun j => by simp [goneN], by simp [goneN, rnk, wk], rfl, rfl⟩
  | succ i ih =>
    have I := ih (by omega)
    have hiw : i < P.wt.length := by rw [hw.wt]; omega
    have hist : i < P.st.length := by omega
    rw [goneN_succ]
    generalize goneN R kp i = T at I
    have hB : T.1.B[i]? = some P.wt[i].isSome := by rw [I.b i, if_neg (by omega)]; exact h.bget hiw
    have hV : T.1.V[i]? = some (seenAt P.st P.wt i) := by rw [I.v i, if_neg (by omega)]; exact h.vget hist
    have hS : T.1.S[i]? = some P.st[i] := by rw [I.s i, if_neg (by omega)]; exact List.getElem?_eq_getElem hist
    have hm := mixA_get (keepF kp) P.st P.wt hist
    have lenS : i < T.1.S.length := by
      rcases Nat.lt_or_ge i T.1.S.length with h | h
      · exact h
      · rw [List.getElem?_eq_none h] at hS; cases hS
    have lenV : i < T.1.V.length := by
      rcases Nat.lt_or_ge i T.1.V.length with h | h
      · exact h
      · rw [List.getElem?_eq_none h] at hV; cases hV
    have lenB : i < T.1.B.length := by
      rcases Nat.lt_or_ge i T.1.B.length with h | h
      · exact h
      · rw [List.getElem?_eq_none h] at hB; cases hB
    have hrs := rnk_succ P.wt hiw
    unfold stepG
    rw [hB, hV, hS, I.r]
    have put : ∀ {α : Type} (L : List α) (y : α) (F G : Nat → Option α) (_ : i < L.length) (_ : ∀ j, L[j]? = if j < i then F j else G j) (_ : F i = some y) (j : Nat), (L.set i y)[j]? = if j < i + 1 then F j else G j := by
      intro α L y F G hl hL hF j
      by_cases hji : j = i
      · subst hji
        rw [List.getElem?_set_self hl, if_pos (by omega), hF]
      · rw [List.getElem?_set_ne (fun e => hji e.symm), hL j]
        by_cases hlt : j < i
        · rw [if_pos hlt, if_pos (by omega)]
        · rw [if_neg hlt, if_neg (by omega)]
    have stay : ∀ {α : Type} (L : List α) (F G : Nat → Option α) (_ : ∀ j, L[j]? = if j < i then F j else G j) (_ : F i = G i) (j : Nat), L[j]? = if j < i + 1 then F j else G j := by
      intro α L F G hL hF j
      rw [hL j]
      by_cases hji : j = i
      · subst hji
        rw [if_neg (by omega), if_pos (by omega), hF]
      · by_cases hlt : j < i
        · rw [if_pos hlt, if_pos (by omega)]
        · rw [if_neg hlt, if_neg (by omega)]
    cases hx : P.wt[i].isSome with
    | true =>
      rw [hx] at hrs
      simp only [Option.getD_some, if_true]
      by_cases hk : keepF kp (rnk P.wt i) = true
      · rw [if_pos hk]
        rw [if_pos hk] at hm
        exact ⟨put _ _ _ _ lenS I.s hm, put _ _ _ _ lenV I.v hm, put _ _ _ _ lenB I.b rfl, by simpa using hrs.symm, I.l, I.k⟩
      · rw [if_neg hk]
        rw [if_neg hk] at hm
        exact ⟨stay _ _ _ I.s (by rw [hm]; exact (List.getElem?_eq_getElem hist).symm), put _ _ _ _ lenV I.v hm, put _ _ _ _ lenB I.b rfl, by simpa using hrs.symm, I.l, I.k⟩
    | false =>
      rw [hx] at hrs
      simp only [Option.getD_some, Bool.false_eq_true, if_false]
      have hn : seenAt P.st P.wt i = P.st[i] := by
        rw [seen_none P.st P.wt (fun x e => by rw [List.getElem?_eq_getElem hiw] at e; injection e with e; rw [e] at hx; cases hx), List.getElem?_eq_getElem hist]; rfl
      rw [hn, ite_self] at hm
      refine ⟨stay _ _ _ I.s (by rw [hm]; exact (List.getElem?_eq_getElem hist).symm), stay _ _ _ I.v (by rw [hm, h.vget hist, hn]), stay _ _ _ I.b (by rw [h.bget hiw, hx]), by simpa [I.r] using hrs.symm, I.l, I.k⟩
theorem same_gone {P : Pl} {R : Rm} (hw : Wl P) (h : Same P R) (kp : List Bool) : Same (power P kp) (goneR R kp) := by
  have I := gone_steps hw h kp P.st.length (Nat.le_refl _)
  have hl := goneN_same R kp R.S.length
  unfold goneR
  rw [h.s] at hl ⊢
  generalize goneN R kp P.st.length = T at I hl
  have hml := mixA_length (keepF kp) P.st P.wt
  have eS : T.1.S = mixA (keepF kp) P.st P.wt := by
    apply List.ext_getElem?
    intro j
    rw [I.s j]
    split
    · rfl
    · rw [List.getElem?_eq_none (by omega), List.getElem?_eq_none (by omega)]
  refine ⟨eS, ?_, ?_, rfl, rfl, fun h => absurd rfl h, fun h => absurd rfl h⟩
  · show T.1.V = _
    apply List.ext_getElem?
    intro j
    rw [I.v j]
    show _ = ((List.range (mixA (keepF kp) P.st P.wt).length).map (seenAt (mixA (keepF kp) P.st P.wt) (List.replicate P.n none)))[j]?
    rw [hml]
    by_cases hj : j < P.st.length
    · rw [if_pos hj, List.getElem?_map, List.getElem?_range hj, List.getElem?_eq_getElem (by omega)]
      simp only [Option.map_some]
      rw [seen_none _ _ (fun x e => by rw [List.getElem?_replicate] at e; split at e <;> cases e), List.getElem?_eq_getElem (by omega)]
      rfl
    · rw [if_neg hj, List.getElem?_eq_none (by rw [h.v]; simp; omega), List.getElem?_eq_none (by simp; omega)]
  · show T.1.B = (List.replicate P.n none).map Option.isSome
    apply List.ext_getElem?
    intro j
    rw [I.b j, List.map_replicate, List.getElem?_replicate]
    show _ = if j < P.st.length then _ else _
    split
    · rfl
    · rw [h.b, List.getElem?_eq_none (by rw [List.length_map, hw.wt]; omega)]

theorem same_new (n : Nat) : Same (newP n) (newR n) := by
  refine ⟨rfl, ?_, ?_, rfl, rfl, fun h => absurd rfl h, fun h => absurd rfl h⟩
  · show List.replicate n zero64 = (List.range (List.replicate n zero64).length).map (seenAt (List.replicate n zero64) (List.replicate n none))
    rw [List.length_replicate]
    apply List.ext_getElem?
    intro j
    by_cases hj : j < n
    · rw [List.getElem?_replicate, if_pos hj, List.getElem?_map, List.getElem?_range hj]
      simp only [Option.map_some]
      rw [seen_none _ _ (fun x e => by rw [List.getElem?_replicate] at e; split at e <;> cases e), List.getElem?_replicate, if_pos hj]
      rfl
    · rw [List.getElem?_eq_none (by simp; omega), List.getElem?_eq_none (by simp; omega)]
  · show List.replicate n false = (List.replicate n none).map Option.isSome
    rw [List.map_replicate]
    rfl
theorem same_there {P : Pl} {R : Rm} (h : Same P R) (x : Int) : thereR R x = decide (0 ≤ x ∧ x < P.n) := by unfold thereR; rw [h.s]; rfl
theorem same_boot {P : Pl} {R : Rm} (h : Same P R) : Same (bootP P) { R with dead := false, fails := false } := ⟨h.s, h.v, h.b, rfl, rfl, fun e => absurd rfl e, fun e => absurd rfl e⟩
theorem keepF_take (kp : List Bool) (n r : Nat) (h : r < n) : keepF (kp.take n) r = keepF kp r := by unfold keepF; rw [List.getElem?_take, if_pos h]
theorem mixA_congr {f f' : Nat → Bool} {st : List (List UInt8)} {wt : Wt} (hl : wt.length = st.length) (h : ∀ r, r < st.length → f r = f' r) : mixA f st wt = mixA f' st wt := by
  apply List.ext_getElem?
  intro j
  by_cases hj : j < st.length
  · have hr : rnk wt j < st.length := by
      unfold rnk
      have := wk_len (wt.take j)
      rw [List.length_take] at this
      omega
    rw [mixA_get f st wt hj, mixA_get f' st wt hj, h _ hr]
  · rw [List.getElem?_eq_none (by rw [mixA_length]; omega), List.getElem?_eq_none (by rw [mixA_length]; omega)]
/-- What a doing meets. -/
theorem same_fails {P : Pl} {R : Rm} (hw : Wl P) (h : Same P R) : ((failsR R).1 = decide (P.ah = 0)) ∧ Same (if P.ah = 0 then power P P.kp else count P) (failsR R).2 := by
  have h1 := hw.ah
  unfold failsR
  by_cases hm : P.ah = -1
  · have hf : R.fails = false := by rw [h.f, hm]; rfl
    rw [if_pos hf, if_neg (by omega)]
    refine ⟨by simp [hm], ?_⟩
    unfold count
    rw [if_pos hm]
    exact h
  · have hf : ¬ R.fails = false := by rw [h.f]; simp [hm]
    have hl := h.l hm
    rw [if_neg hf, hl]
    by_cases h0 : P.ah = 0
    · rw [if_neg (by omega), if_pos h0]
      refine ⟨by simp [h0], ?_⟩
      have e : power P P.kp = power P R.K := by
        unfold power
        rw [mixA_congr hw.wt (f' := keepF R.K) fun r hr => by rw [← h.k hm]; exact keepF_take _ _ _ hr]
      rw [e]
      exact same_gone hw h R.K
    · rw [if_pos (by omega), if_neg h0]
      refine ⟨by simp [h0], ?_⟩
      unfold count
      rw [if_neg hm]
      refine ⟨h.s, h.v, h.b, h.d, ?_, fun _ => rfl, fun _ => h.k hm⟩
      show R.fails = decide (P.ah - 1 ≠ -1)
      rw [h.f]
      have a1 : P.ah ≠ -1 := hm
      have a2 : P.ah - 1 ≠ -1 := by omega
      simp [a1, a2]
theorem same_crash {P : Pl} {R : Rm} (hw : Wl P) (h : Same P R) (kp : List Bool) : (crashR R kp).1 = (crashP P kp).1 ∧ Same (crashP P kp).2 (crashR R kp).2 := by
  unfold crashR crashP
  rw [h.d]
  by_cases hd : P.dead = true
  · rw [if_pos hd, if_pos hd]; exact ⟨rfl, h⟩
  · rw [if_neg hd, if_neg hd]; exact ⟨rfl, same_gone hw h kp⟩
theorem same_fail {P : Pl} {R : Rm} (h : Same P R) (n : Int) (kp : List Bool) : (failR R n kp).1 = (failP P n kp).1 ∧ Same (failP P n kp).2 (failR R n kp).2 := by
  unfold failR failP
  rw [h.d]
  by_cases hd : P.dead = true
  · rw [if_pos hd, if_pos hd]; exact ⟨rfl, h⟩
  · rw [if_neg hd, if_neg hd]
    refine ⟨rfl, ?_⟩
    unfold setFail
    by_cases hn : n < 0
    · rw [if_pos hn]
      exact ⟨h.s, h.v, h.b, rfl, by show decide (0 ≤ n) = decide ((-1 : Int) ≠ -1); simp; omega, fun e => absurd rfl e, fun e => absurd rfl e⟩
    · rw [if_neg hn]
      refine ⟨h.s, h.v, h.b, rfl, ?_, fun _ => rfl, fun _ => rfl⟩
      show decide (0 ≤ n) = decide (n ≠ -1)
      have a1 : 0 ≤ n := by omega
      have a2 : n ≠ -1 := by omega
      simp [a1, a2]
theorem same_read {P : Pl} {R : Rm} (h : Same P R) (x : Int) : readR R x = readP P x := by
  unfold readR readP lackE
  rw [h.d, same_there h]
  by_cases hd : P.dead = true
  · rw [if_pos hd, if_pos hd]; rfl
  · rw [if_neg hd, if_neg hd]
    by_cases ht : 0 ≤ x ∧ x < P.n
    · rw [if_pos ht, if_neg (by simp [ht])]
      have hx : x.toNat < P.st.length := by have : (P.n : Int) = P.st.length := rfl; omega
      rw [h.vget hx]
      rfl
    · rw [if_neg ht, if_pos (by simp; intro a; have : ¬ x < P.n := fun b => ht ⟨a, b⟩; omega)]
      rfl
theorem same_size {P : Pl} {R : Rm} (h : Same P R) : R.S.length = P.n := by rw [h.s]; rfl
theorem same_waits {P : Pl} {R : Rm} (hw : Wl P) (h : Same P R) : waitsN R R.S.length = (wk P.wt).map fun (j : Nat) => (j : Int) := by
  unfold waitsN wk
  rw [h.s, hw.wt]
  congr 1
  apply List.filter_congr
  intro j hj
  have hj' : j < P.wt.length := by rw [hw.wt]; simpa using hj
  rw [h.bget hj', List.getElem?_eq_getElem hj']
  rfl

theorem seen_set (st : List (List UInt8)) (wt : Wt) {i : Nat} (y : List UInt8) (hi : i < wt.length) (j : Nat) : seenAt st (wt.set i (some y)) j = if j = i then y else seenAt st wt j := by
  unfold seenAt
  by_cases hj : j = i
  · subst hj
    rw [if_pos rfl, List.getElem?_set_self hi]
    rfl
  · rw [if_neg hj, List.getElem?_set_ne (fun e => hj e.symm)]
theorem map_set_range {α : Type} (F : Nat → α) (n i : Nat) (y : α) : ((List.range n).map F).set i y = (List.range n).map fun j => if j = i then y else F j := by
  apply List.ext_getElem?
  intro j
  by_cases hj : j < n
  · by_cases hji : j = i
    · subst hji
      rw [List.getElem?_set_self (by simpa using hj), List.getElem?_map, List.getElem?_range hj]
      simp
    · rw [List.getElem?_set_ne (fun e => hji e.symm), List.getElem?_map, List.getElem?_map, List.getElem?_range hj]
      simp [hji]
  · rw [List.getElem?_eq_none (by simp; omega), List.getElem?_eq_none (by simp; omega)]
theorem count_keeps (P : Pl) : (count P).st = P.st ∧ (count P).wt = P.wt ∧ (count P).dead = P.dead := by unfold count; split <;> exact ⟨rfl, rfl, rfl⟩
theorem same_write {P : Pl} {R : Rm} (hw : Wl P) (h : Same P R) (x : Int) (b : List UInt8) : (writeR R x b).1 = (writeP P x b).1 ∧ Same (writeP P x b).2 (writeR R x b).2 := by
  unfold writeR writeP lackE
  rw [same_there h, h.d]
  by_cases hd : P.dead = true
  · rw [if_pos hd, if_pos hd]; exact ⟨rfl, h⟩
  · rw [if_neg hd, if_neg hd]
    by_cases ht : 0 ≤ x ∧ x < P.n
    · rw [if_pos ht, if_neg (show ¬ decide (0 ≤ x ∧ x < (P.n : Int)) = false by simp [ht]), if_neg (show ¬ ((0 : Int) ≠ 0) from fun e => e rfl)]
      by_cases hb : b.length ≠ 64
      · rw [if_pos hb, if_pos hb]; exact ⟨rfl, h⟩
      · rw [if_neg hb, if_neg hb]
        obtain ⟨f1, f2⟩ := same_fails hw h
        by_cases h0 : P.ah = 0
        · rw [if_pos h0] at f2
          rw [if_pos (by rw [f1]; simp [h0]), if_pos h0]
          exact ⟨rfl, f2⟩
        · rw [if_neg h0] at f2
          rw [if_neg (by rw [f1]; simp [h0]), if_neg h0]
          have hc := count_keeps P
          have hx : x.toNat < P.wt.length := by rw [hw.wt]; have : (P.n : Int) = P.st.length := rfl; omega
          refine ⟨rfl, f2.s, ?_, ?_, f2.d, f2.f, f2.l, f2.k⟩
          · show (failsR R).2.V.set x.toNat b = (List.range (count P).st.length).map (seenAt (count P).st (P.wt.set x.toNat (some b)))
            rw [f2.v, map_set_range, hc.2.1, hc.1]
            congr 1
            funext j
            exact (seen_set P.st P.wt b hx j).symm
          · show (failsR R).2.B.set x.toNat true = (P.wt.set x.toNat (some b)).map Option.isSome
            rw [f2.b, hc.2.1, List.map_set]
            rfl
    · rw [if_neg ht, if_pos (show decide (0 ≤ x ∧ x < (P.n : Int)) = false by simp; intro a; have : ¬ x < P.n := fun b => ht ⟨a, b⟩; omega), if_pos (show (9 : Int) ≠ 0 by decide)]
      exact ⟨rfl, h⟩
theorem same_turn {P : Pl} {R : Rm} (hw : Wl P) (h : Same P R) (x bit : Int) : (turnR R x bit).1 = (turnP P x bit).1 ∧ Same (turnP P x bit).2 (turnR R x bit).2 := by
  unfold turnR turnP lackE
  rw [same_there h, h.d]
  by_cases hd : P.dead = true
  · rw [if_pos hd, if_pos hd]; exact ⟨rfl, h⟩
  · rw [if_neg hd, if_neg hd]
    by_cases ht : 0 ≤ x ∧ x < P.n
    · rw [if_pos ht]
      by_cases hb : 0 ≤ bit ∧ bit < 512
      · rw [if_neg (show ¬ (decide (0 ≤ x ∧ x < (P.n : Int)) = false ∨ bit < 0 ∨ 511 < bit) by rintro (e | e | e); simp [ht] at e; omega; omega), if_neg (show ¬ ((0 : Int) ≠ 0) from fun e => e rfl), if_pos hb]
        have hx : x.toNat < P.st.length := by have : (P.n : Int) = P.st.length := rfl; omega
        have hxw : x.toNat < P.wt.length := by rw [hw.wt]; exact hx
        rw [h.vget hx]
        simp only [Option.getD_some]
        obtain ⟨y, hy⟩ : ∃ y, flipB (seenAt P.st P.wt x.toNat) bit.toNat = y := ⟨_, rfl⟩
        rw [hy]
        refine ⟨by trivial, by show R.S.set x.toNat y = P.st.set x.toNat y; rw [h.s], ?_, ?_, rfl, h.f, h.l, fun e => by have := h.k e; show R.K.take (P.st.set x.toNat y).length = P.kp; rw [List.length_set]; exact this⟩
        · show R.V.set x.toNat y = (List.range (P.st.set x.toNat y).length).map (seenAt (P.st.set x.toNat y) (P.wt.set x.toNat none))
          rw [h.v, map_set_range, List.length_set]
          congr 1
          funext j
          unfold seenAt
          by_cases hj : j = x.toNat
          · subst hj
            rw [if_pos rfl, List.getElem?_set_self hxw, List.getElem?_set_self hx]
            rfl
          · rw [if_neg hj, List.getElem?_set_ne (fun e => hj e.symm), List.getElem?_set_ne (fun e => hj e.symm)]
        · show R.B.set x.toNat false = (P.wt.set x.toNat none).map Option.isSome
          rw [h.b, List.map_set]
          rfl
      · rw [if_pos (show (decide (0 ≤ x ∧ x < (P.n : Int)) = false ∨ bit < 0 ∨ 511 < bit) by right; omega), if_neg (show ¬ ((0 : Int) ≠ 0) from fun e => e rfl), if_neg hb]
        exact ⟨rfl, h⟩
    · rw [if_neg ht, if_pos (show (decide (0 ≤ x ∧ x < (P.n : Int)) = false ∨ bit < 0 ∨ 511 < bit) from .inl (by simp; intro a; have : ¬ x < P.n := fun b => ht ⟨a, b⟩; omega)), if_pos (show (9 : Int) ≠ 0 by decide)]
      exact ⟨rfl, h⟩

structure FlushI (R : Rm) (i : Nat) (T : Rm) : Prop where
  s : ∀ j, T.S[j]? = if j < i then R.V[j]? else R.S[j]?
  v : T.V = R.V
  b : ∀ j, T.B[j]? = if j < i then some false else R.B[j]?
  d : T.dead = R.dead
  f : T.fails = R.fails
  l : T.left = R.left
  k : T.K = R.K
theorem flush_steps (R : Rm) (hv : R.V.length = R.S.length) (hb : R.B.length = R.S.length) (i : Nat) (hi : i ≤ R.S.length) : FlushI R i (flushN R i) := by
  induction i with
  | zero => exact ⟨fun j => by simp [flushN], rfl, fun j => by simp [flushN], rfl, rfl, rfl, rfl⟩
  | succ i ih =>
    have I := ih (by omega)
    have hs := flushN_same R i
    rw [flushN_succ]
    generalize flushN R i = T at I hs
    unfold stepF
    refine ⟨fun j => ?_, I.v, fun j => ?_, I.d, I.f, I.l, I.k⟩
    · by_cases hji : j = i
      · subst hji
        rw [List.getElem?_set_self (by omega), if_pos (by omega), I.v, List.getElem?_eq_getElem (by omega)]
        rfl
      · rw [List.getElem?_set_ne (fun e => hji e.symm), I.s j]
        by_cases hlt : j < i
        · rw [if_pos hlt, if_pos (by omega)]
        · rw [if_neg hlt, if_neg (by omega)]
    · by_cases hji : j = i
      · subst hji
        rw [List.getElem?_set_self (by omega), if_pos (by omega)]
      · rw [List.getElem?_set_ne (fun e => hji e.symm), I.b j]
        by_cases hlt : j < i
        · rw [if_pos hlt, if_pos (by omega)]
        · rw [if_neg hlt, if_neg (by omega)]
theorem same_flush {P : Pl} {R : Rm} (hw : Wl P) (h : Same P R) : (flushR R).1 = (flushP P).1 ∧ Same (flushP P).2 (flushR R).2 := by
  unfold flushR flushP
  rw [h.d]
  by_cases hd : P.dead = true
  · rw [if_pos hd, if_pos hd]; exact ⟨rfl, h⟩
  · rw [if_neg hd, if_neg hd]
    obtain ⟨f1, f2⟩ := same_fails hw h
    by_cases h0 : P.ah = 0
    · rw [if_pos h0] at f2
      rw [if_pos (by rw [f1]; simp [h0]), if_pos h0]
      exact ⟨rfl, f2⟩
    · rw [if_neg h0] at f2
      rw [if_neg (by rw [f1]; simp [h0]), if_neg h0]
      have hc := count_keeps P
      obtain ⟨F, hF⟩ : ∃ F, (failsR R).2 = F := ⟨_, rfl⟩
      rw [hF] at f2 ⊢
      have hst : F.S = P.st := f2.s.trans hc.1
      have hvl : F.V.length = F.S.length := by rw [f2.v, f2.s]; simp
      have hbl : F.B.length = F.S.length := by rw [f2.b, hst, hc.2.1, List.length_map, hw.wt]
      have I := flush_steps F hvl hbl F.S.length (Nat.le_refl _)
      have hs := flushN_same F F.S.length
      generalize flushN F F.S.length = T at I hs
      have hml := mixA_length (fun _ => true) P.st P.wt
      have hmg : ∀ j, j < P.st.length → (mixA (fun _ => true) P.st P.wt)[j]? = some (seenAt P.st P.wt j) := fun j hj => by rw [mixA_get _ _ _ hj]; simp
      have hV : ∀ j, j < P.st.length → F.V[j]? = some (seenAt P.st P.wt j) := fun j hj => by
        have := f2.vget (i := j) (by rw [hc.1]; exact hj)
        rw [hc.1, hc.2.1] at this
        exact this
      refine ⟨rfl, ?_, ?_, ?_, I.d.trans f2.d, I.f.trans f2.f, fun e => I.l.trans (f2.l e), fun e => by
        show T.K.take (mixA (fun _ => true) P.st P.wt).length = _
        rw [hml, I.k, ← hc.1]
        exact f2.k e⟩
      · show T.S = mixA (fun _ => true) P.st P.wt
        apply List.ext_getElem?
        intro j
        rw [I.s j, hst]
        by_cases hj : j < P.st.length
        · rw [if_pos hj, hV j hj, hmg j hj]
        · rw [if_neg hj, List.getElem?_eq_none (by omega), List.getElem?_eq_none (by omega)]
      · show T.V = (List.range (mixA (fun _ => true) P.st P.wt).length).map (seenAt (mixA (fun _ => true) P.st P.wt) (List.replicate P.n none))
        rw [I.v, hml]
        apply List.ext_getElem?
        intro j
        by_cases hj : j < P.st.length
        · rw [hV j hj, List.getElem?_map, List.getElem?_range hj]
          simp only [Option.map_some]
          rw [seen_none (mixA (fun _ => true) P.st P.wt) (List.replicate P.n none) (fun x e => by rw [List.getElem?_replicate] at e; split at e <;> cases e), hmg j hj]
          rfl
        · rw [List.getElem?_eq_none (by rw [hvl, hst]; omega), List.getElem?_eq_none (by simp; omega)]
      · show T.B = (List.replicate P.n none).map Option.isSome
        apply List.ext_getElem?
        intro j
        rw [I.b j, List.map_replicate, List.getElem?_replicate, hst]
        show _ = if j < P.st.length then _ else _
        split
        · rfl
        · rw [List.getElem?_eq_none (by rw [hbl, hst]; omega)]
end Go.Proofs.Ytmcbjcopipafdaa
