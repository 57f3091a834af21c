/-
  The crew's calls over the code: Most, Some, Leader, Has, Others.
-/
import Derived.Test.YtjibbbfpbflgmaaFind8
import Derived.Test.YtjibbbfpbflgmaaOth8
import Derived.Deep.RegionWith
namespace Go.Proofs.Ytjibbbfpbflgmaa
open Go.RowKit Go.Shelf CrewP
set_option linter.unusedVariables false

/-- A crew that was handed in lies boxed in the block at the end of the world 'w'. -/
structure Bx (w W : World) (f : Int) (A : Option Addr) (n c : Nat) (l : List Int) : Prop where
  blk : Blk W w.heap.size 24 [.int .i64 f, .slice A n c]
  bel : Below w.heap.size w W
  arg : ArgI W A n c l
section
variable {w W W' : World} {f : Int} {A : Option Addr} {n c : Nat} {l : List Int}
theorem Bx.on (h : Bx w W f A n c l) (hb : Below W.heap.size W W') : Bx w W' f A n c l := ⟨h.blk.below hb h.blk.lt, h.bel.trans (hb.mono h.bel.size), h.arg.after hb⟩
theorem Bx.drewN (h : Bx w W f A n c l) (q : Nat) : Bx w (W.drewN q) f A n c l := h.on (below_drewN (Below.refl _ _) q)
theorem Bx.k0 (h : Bx w W f A n c l) : W.cell? ⟨w.heap.size, 0, none⟩ = some (.int .i64 f) := h.blk.cell rfl
theorem Bx.k1 (h : Bx w W f A n c l) : W.cell? ⟨w.heap.size, 1, none⟩ = some (.slice A n c) := h.blk.cell rfl
theorem Bx.new (h : ArgI w A n c l) : Bx w (w.alloc (.cells #[.int .i64 f, .slice A n c] 24)) f A n c l :=
  have hb : Below w.heap.size w (w.alloc (.cells #[.int .i64 f, .slice A n c] 24)) := (Below.refl _ _).alloc (Nat.le_refl _) _
  ⟨Blk.new rfl rfl, hb, h.after hb⟩
end
theorem check2 (f : Int) (A : Option Addr) (n c : Nat) (l : List Int) (w : World) (h : ArgI w A n c l) (z : Int) (hz : chkE f l = z) :
    Calls Try.prog 20 #[.agg #[.int .i64 f, .slice A n c]] (w.alloc (.cells #[.int .i64 f, .slice A n c] 24)) fun e w' => e = .returned (.int .i64 z) ∧ Bx w w' f A n c l := by
  subst hz
  have hb := Bx.new (f := f) h
  exact (check_any f A n c l _ hb.arg).mono fun e w' ⟨he, hw⟩ => ⟨he, hb.on hw⟩
theorem chk0 {f : Int} {l : List Int} (h : okC f l = true) : chkE f l = 0 := by simp [chkE, h]
theorem chk1 {f : Int} {l : List Int} (h : okC f l = false) : chkE f l = 110 := by simp [chkE, h]
theorem ok_len {f : Int} {l : List Int} (h : okC f l = true) : (0 ≤ f ∧ f ≤ 2) ∧ (l.length : Int) = 3 * f + 1 ∧ Asc l := by
  rw [okC_iff] at h; exact ⟨⟨h.1.1, h.1.2.1⟩, h.1.2.2, h.2.2⟩

def mostR (f : Int) (l : List Int) : Int := if okC f l then 2 * f + 1 else 0
def someR (f : Int) (l : List Int) : Int := if okC f l then f + 1 else 0
def leaderR (f : Int) (l : List Int) (v : Int) : Int := if okC f l ∧ 0 ≤ v then l.getD (v % l.length).toNat 0 else 0
def hasR (f : Int) (l : List Int) (x : Int) : Bool := okC f l && decide (x ∈ l)
def othersR (f : Int) (l : List Int) (x : Int) : List Int := if okC f l then othersL l x else []

section
variable (f : Int) (A : Option Addr) (n c : Nat) (l : List Int) (w : World)
theorem most_any (h : ArgI w A n c l) : Calls Try.prog 26 #[.agg #[.int .i64 f, .slice A n c]] w fun e w' => e = .returned (.int .i64 (mostR f l)) ∧ Below w.heap.size w w' := by
  cases hok : okC f l with
  | false =>
    have H := Lib.hid (check2 f A n c l w h 110 (chk1 hok))
    have e : mostR f l = 0 := by simp [mostR, hok]
    rw [e]; clear e hok h
    go_enter Try.func26, Try.ntmps26
    go_wp2_with (go_at_call 20; refine H.out.mono ?_; rintro e w' ⟨rfl, hx⟩)
    go_ret
    exact ⟨rfl, hx.bel⟩
  | true =>
    have hf := (ok_len hok).1
    obtain ⟨hf0, hf1⟩ := hf
    have H := Lib.hid (check2 f A n c l w h 0 (chk0 hok))
    have e : mostR f l = 2 * f + 1 := by simp [mostR, hok]
    rw [e]; clear e hok h
    have hm : IntKind.i64.wrap (2 * f) = 2 * f := IntWalk.i64_in _ (by omega)
    have ha : IntKind.i64.wrap (2 * f + 1) = 2 * f + 1 := IntWalk.i64_in _ (by omega)
    go_enter Try.func26, Try.ntmps26
    go_wp2_with (go_at_call 20; refine H.out.mono ?_; rintro e w' ⟨rfl, hx⟩; have k0 := hx.k0; have k1 := hx.k1; replace hx := Lib.hid hx)
    go_ret
    exact ⟨rfl, hx.out.bel⟩

theorem some_any (h : ArgI w A n c l) : Calls Try.prog 28 #[.agg #[.int .i64 f, .slice A n c]] w fun e w' => e = .returned (.int .i64 (someR f l)) ∧ Below w.heap.size w w' := by
  cases hok : okC f l with
  | false =>
    have H := Lib.hid (check2 f A n c l w h 110 (chk1 hok))
    have e : someR f l = 0 := by simp [someR, hok]
    rw [e]; clear e hok h
    go_enter Try.func28, Try.ntmps28
    go_wp2_with (go_at_call 20; refine H.out.mono ?_; rintro e w' ⟨rfl, hx⟩)
    go_ret
    exact ⟨rfl, hx.bel⟩
  | true =>
    obtain ⟨hf0, hf1⟩ := (ok_len hok).1
    have H := Lib.hid (check2 f A n c l w h 0 (chk0 hok))
    have e : someR f l = f + 1 := by simp [someR, hok]
    rw [e]; clear e hok h
    have ha : IntKind.i64.wrap (f + 1) = f + 1 := IntWalk.i64_in _ (by omega)
    go_enter Try.func28, Try.ntmps28
    go_wp2_with (go_at_call 20; refine H.out.mono ?_; rintro e w' ⟨rfl, hx⟩; have k0 := hx.k0; have k1 := hx.k1; replace hx := Lib.hid hx)
    go_ret
    exact ⟨rfl, hx.out.bel⟩

theorem has_any (h : ArgI w A n c l) (x : Int) : Calls Try.prog 32 #[.agg #[.int .i64 f, .slice A n c], .int .i64 x] w fun e w' => e = .returned (.bool (hasR f l x)) ∧ Below w.heap.size w w' := by
  have hln := h.1
  cases hok : okC f l with
  | false =>
    have H := Lib.hid (check2 f A n c l w h 110 (chk1 hok))
    have e : hasR f l x = false := by simp [hasR, hok]
    rw [e]; clear e hok h
    go_enter Try.func32, Try.ntmps32
    go_wp2_with (go_at_call 20; refine H.out.mono ?_; rintro e w' ⟨rfl, hx⟩)
    go_ret
    exact ⟨rfl, hx.bel⟩
  | true =>
    obtain ⟨hf, hl, hasc⟩ := ok_len hok
    have H := Lib.hid (check2 f A n c l w h 0 (chk0 hok))
    have e : hasR f l x = decide (x ∈ l) := by simp [hasR, hok]
    rw [e]; clear e hok h
    have HF := Lib.hid (fun W (hW : ArgI W A n c l) => find_any A n c l x W hW (by omega) hasc)
    clear hasc
    generalize decide (x ∈ l) = b at *
    generalize at_ l x = k at *
    go_enter Try.func32, Try.ntmps32
    go_wp2_with (first
      | (go_at_call 20; refine H.out.mono ?_; rintro e w' ⟨rfl, hx⟩; have k0 := hx.k0; have k1 := hx.k1; replace hx := Lib.hid hx)
      | (go_at_call 51; refine (HF.out _ hx.out.arg).mono ?_; rintro e w'' ⟨rfl, hb⟩; have hy := Lib.hid (hx.out.on hb); clear hb))
    go_ret
    exact ⟨rfl, hy.out.bel⟩

theorem leader_any (h : ArgI w A n c l) (v : Int) (hv : Wf v) : Calls Try.prog 30 #[.agg #[.int .i64 f, .slice A n c], .int .i64 v] w fun e w' => e = .returned (.int .i64 (leaderR f l v)) ∧ Below w.heap.size w w' := by
  have hln := h.1
  have hvb := bounds_i64 hv
  clear hv
  cases hok : okC f l with
  | false =>
    have H := Lib.hid (check2 f A n c l w h 110 (chk1 hok))
    have e : leaderR f l v = 0 := by simp [leaderR, hok]
    rw [e]; clear e hok h
    go_enter Try.func30, Try.ntmps30
    go_wp2_with (go_at_call 20; refine H.out.mono ?_; rintro e w' ⟨rfl, hx⟩; replace hx := Lib.hid hx)
    go_ret
    exact ⟨rfl, hx.out.bel⟩
  | true =>
    obtain ⟨hf, hl, hasc⟩ := ok_len hok
    have H := Lib.hid (check2 f A n c l w h 0 (chk0 hok))
    clear hasc
    by_cases hv0 : v < 0
    · have e : leaderR f l v = 0 := by unfold leaderR; rw [if_neg]; omega
      rw [e]; clear e hok h
      go_enter Try.func30, Try.ntmps30
      go_wp2_with (go_at_call 20; refine H.out.mono ?_; rintro e w' ⟨rfl, hx⟩; replace hx := Lib.hid hx)
      go_ret
      exact ⟨rfl, hx.out.bel⟩
    · have hn0 : (0 : Int) < n := by omega
      have hm0 := Int.emod_nonneg v (show (n : Int) ≠ 0 by omega)
      have hm1 := Int.emod_lt_of_pos v hn0
      obtain ⟨k, hk⟩ : ∃ k : Nat, v % (n : Int) = (k : Int) := ⟨(v % (n : Int)).toNat, by omega⟩
      have ht : v.tmod (n : Int) = (k : Int) := by rw [Int.tmod_eq_emod_of_nonneg (by omega), hk]
      have hkn : k < l.length := by omega
      have e : leaderR f l v = l[k] := by
        unfold leaderR
        rw [if_pos ⟨hok, by omega⟩, hln, hk]
        simp [List.getD, List.getElem?_eq_getElem hkn]
      rw [e]
      have hcell : ∀ W, ArgI W A n c l → ∃ b off, A = some ⟨b, off, none⟩ ∧ W.cell? ⟨b, off + k, none⟩ = some (.int .i64 l[k]) := fun W hW => by
        obtain ⟨b, off, e, _, hc⟩ := hW.2.2.2.1.at_ hkn
        exact ⟨b, off, e, hc k hkn⟩
      obtain ⟨b, off, rfl, _⟩ := hcell w h
      have HC := Lib.hid (fun W (hW : ArgI W (some ⟨b, off, none⟩) n c l) => show W.cell? ⟨b, off + k, none⟩ = some (.int .i64 l[k]) from by
        obtain ⟨b', off', e, hc⟩ := hcell W hW
        injection e with e
        injection e with e1 e2
        subst e1; subst e2
        exact hc)
      clear e hok h hcell
      generalize l[k] = y at *
      have hk0 : (0 : Int) ≤ k := by omega
      have hk1 : (k : Int) < n := by omega
      have hnz : (n == 0) = false := by simp; omega
      have hnz2 : ¬ (n : Int) = 0 := by omega
      clear hm0 hm1 hk hkn
      go_enter Try.func30, Try.ntmps30
      go_wp2_with (go_at_call 20; refine H.out.mono ?_; rintro e w' ⟨rfl, hx⟩; have k0 := hx.k0; have k1 := hx.k1; have k2 := HC.out _ hx.arg; replace hx := Lib.hid hx)
      go_quiet (fail)
      go_wp2
      go_ret
      exact ⟨rfl, below_drewN hx.out.bel _⟩

/-- Two slices of one. -/
theorem run_frontI (A : Option Addr) (n c u : Nat) (h : u ≤ c) (w : World) :
    (Instr.sliceAt 22 (.slice A n c) none (some (.int .i64 (u : Int))) none).run Try.prog w = .ok (.slice A u c) w := by
  have h1 : (u : Int) ≤ c := by omega
  go_simp
theorem run_cutI (A : Option Addr) (n c u : Nat) (h : u ≤ n) (w : World) :
    (Instr.sliceAt 22 (.slice A n c) (some (.int .i64 (u : Int))) none none).run Try.prog w = .ok (.slice (cutAt A 1 u c) (n - u) (c - u)) w := by
  have h1 : (u : Int) ≤ n := by omega
  go_simp
  simp [cutAt]
theorem ArgI.front {w : World} {A : Option Addr} {n c : Nat} {l : List Int} (h : ArgI w A n c l) {m : Nat} (hm : m ≤ n) : ArgI w A m c (l.take m) := by
  obtain ⟨h1, h2, h3, h4, h5⟩ := h
  subst h1
  refine ⟨by rw [List.length_take]; omega, by omega, h3, ?_, fun x hx => h5 x (List.mem_of_mem_take hx)⟩
  have := Shows.front h4 hm
  unfold Is
  rw [List.length_take, Nat.min_eq_left hm, cis_take]
  simpa using this
theorem ArgI.cut {w : World} {A : Option Addr} {n c : Nat} {l : List Int} (h : ArgI w A n c l) {m : Nat} (hm : m ≤ n) : ArgI w (cutAt A 1 m c) (n - m) (c - m) (l.drop m) := by
  obtain ⟨h1, h2, h3, h4, h5⟩ := h
  subst h1
  refine ⟨by rw [List.length_drop], by omega, by omega, ?_, fun x hx => h5 x (List.mem_of_mem_drop hx)⟩
  have := Shows.cut h4 hm h2
  unfold Is
  rw [List.length_drop, cis_drop]
  simpa using this

theorem NewI.later {w w1 w' : World} {l : List Int} {v : Value} (hb : Below w.heap.size w w1) (h : NewI w1 l v w') : NewI w l v w' := ⟨own_base h.1 hb.size, hb.trans (h.2.mono hb.size)⟩
theorem concat_oth {A : Option Addr} {n c k : Nat} {l : List Int} (W : World) (h : ArgI W A n c l) (hk : k < n) (hn : n ≤ 1000) :
    Calls Try.prog 52 #[.slice (some ⟨W.heap.size, 0, none⟩) 2 2] (W.alloc (.cells #[.slice A k c, .slice (cutAt A 1 (k + 1) c) (n - (k + 1)) (c - (k + 1))] 22)) fun e w' => ∃ v, e = .returned v ∧ NewI W (l.take k ++ l.drop (k + 1)) v w' := by
  have hb : Below W.heap.size W (W.alloc (.cells #[.slice A k c, .slice (cutAt A 1 (k + 1) c) (n - (k + 1)) (c - (k + 1))] 22)) := (Below.refl _ _).alloc (Nat.le_refl _) _
  refine (concat2_any _ A (cutAt A 1 (k + 1) c) k c (n - (k + 1)) (c - (k + 1)) (l.take k) (l.drop (k + 1)) _ (Blk.new rfl rfl) ((h.front (by omega)).after hb) ((h.cut (by omega)).after hb) (by omega) (by omega)).mono ?_
  rintro e w' ⟨v, he, hN⟩
  exact ⟨v, he, hN.later hb⟩

set_option maxRecDepth 100000 in
set_option maxHeartbeats 1600000 in
theorem others_any (h : ArgI w A n c l) (x : Int) : Calls Try.prog 25 #[.agg #[.int .i64 f, .slice A n c], .int .i64 x] w fun e w' => ∃ v, e = .returned v ∧ NewI w (othersR f l x) v w' := by
  have hln := h.1
  cases hok : okC f l with
  | false =>
    have H := Lib.hid (check2 f A n c l w h 110 (chk1 hok))
    have e : othersR f l x = [] := by simp [othersR, hok]
    rw [e]; clear e hok h
    go_enter Try.func25, Try.ntmps25
    go_wp2_with (go_at_call 20; refine H.out.mono ?_; rintro e w' ⟨rfl, hx⟩; replace hx := Lib.hid hx)
    go_ret
    exact ⟨_, rfl, World.ownsRow_nil _ _ _ _, hx.out.bel⟩
  | true =>
    obtain ⟨hf, hl, hasc⟩ := ok_len hok
    have H := Lib.hid (check2 f A n c l w h 0 (chk0 hok))
    have e : othersR f l x = othersL l x := by simp [othersR, hok]
    rw [e]; clear e hok h
    have HF := Lib.hid (fun W (hW : ArgI W A n c l) => find_any A n c l x W hW (by omega) hasc)
    by_cases hx : x ∈ l
    · have hd : decide (x ∈ l) = true := by simp [hx]
      have htd := take_drop_mem hasc hx
      obtain ⟨hi, _⟩ := (at_found hasc x).2 hx
      rw [hd] at HF
      rw [← htd]
      clear hd htd hasc hx
      generalize at_ l x = k at *
      have ha : IntKind.i64.wrap ((k : Int) + 1) = (k : Int) + 1 := IntWalk.i64_in _ (by omega)
      have hcu := run_cutI A n c (k + 1) (by omega)
      rw [show ((k + 1 : Nat) : Int) = (k : Int) + 1 by omega] at hcu
      go_enter Try.func25, Try.ntmps25
      go_wp2_with (first
        | (go_at_call 20; refine H.out.mono ?_; rintro e w' ⟨rfl, hx⟩; have k0 := hx.k0; have k1 := hx.k1; have hnc := hx.arg.2.1; have hfr := run_frontI A n c k (by omega); replace hx := Lib.hid hx)
        | (go_at_call 51; refine (HF.out _ hx.out.arg).mono ?_; rintro e w2 ⟨rfl, hb⟩; have hy := Lib.hid (hx.out.on hb); have k2 := hy.out.k0; have k3 := hy.out.k1; clear hb))
      have hlk : (l.take k).length = k := by rw [List.length_take]; omega
      go_region_with (go_at_call 52; refine (concat_oth _ (hy.out.drewN _).arg (by omega) (by omega)).mono ?_; rintro e w3 ⟨v, rfl, hN⟩)
      all_goals (go_wp2; go_ret; exact ⟨_, rfl, NewI.later (hy.out.drewN _).bel (by assumption)⟩)
    · have hd : decide (x ∈ l) = false := by simp [hx]
      rw [hd] at HF
      rw [others_none hx]
      clear hd hasc hx
      generalize at_ l x = k at *
      go_enter Try.func25, Try.ntmps25
      go_wp2_with (first
        | (go_at_call 20; refine H.out.mono ?_; rintro e w' ⟨rfl, hx⟩; have k0 := hx.k0; have k1 := hx.k1; replace hx := Lib.hid hx)
        | (go_at_call 51; refine (HF.out _ hx.out.arg).mono ?_; rintro e w2 ⟨rfl, hb⟩; have hy := Lib.hid (hx.out.on hb); have k2 := hy.out.k0; have k3 := hy.out.k1; clear hb)
        | (go_at_call 46; refine (clone_any A n c l _ hy.out.arg (by omega)).mono ?_; rintro e w3 ⟨v, rfl, hN⟩))
      go_ret
      exact ⟨_, rfl, hN.later hy.out.bel⟩
end
end Go.Proofs.Ytjibbbfpbflgmaa
