/-
  Laid together for a hand-in: Once, Dig, RootsP, Div, RootsW, RorS.
-/
import Derived.Test.YtfaeechidjpjbaaGreatZ03
import Derived.Test.YtfaeechidjpjbaaGreatZ02
import Derived.Tactics
import Derived.Tactics2
import Derived.Defers
import Derived.Laws.Pointers
import Derived.Laws.LoneSync
import Derived.Laws.NewBlocks
import Derived.RegionTactic
import Derived.RegionCalls
import Derived.ChangeAlike
import Derived.Deep.DeepCutAuto
import Derived.Deep.CutBlock

namespace Go.Proofs.YtfaeechidjpjbaaGreat

open Go.RowKit

set_option linter.unusedVariables false

theorem disable (w : World) : (callFunc 171 #[]).run Tryz.prog w = .ok (.value (.tuple #[])) w := run_call_mark0 Tryz.func171 (by kernel_rfl) (by kernel_rfl) (by kernel_rfl) .disable (by kernel_rfl) w

theorem enable (w : World) : (callFunc 173 #[]).run Tryz.prog w = .ok (.value (.tuple #[])) w := run_call_mark0 Tryz.func173 (by kernel_rfl) (by kernel_rfl) (by kernel_rfl) .enable (by kernel_rfl) w

theorem acquire (a : Addr) (w : World) : (callFunc 174 #[.pointer (some a)]).run Tryz.prog w = .ok (.value (.tuple #[])) w := run_call_marked Tryz.func174 (by kernel_rfl) (by kernel_rfl) (by kernel_rfl) .acquire (by kernel_rfl) a w

theorem releaseMerge (a : Addr) (w : World) : (callFunc 176 #[.pointer (some a)]).run Tryz.prog w = .ok (.value (.tuple #[])) w := run_call_marked Tryz.func176 (by kernel_rfl) (by kernel_rfl) (by kernel_rfl) .releaseMerge (by kernel_rfl) a w

theorem store_deferred (a : Addr) (x : Value) (u : FrameMode) (w : World) (hc : w.cell? a = some x) (hz : w.frozen? a = false) :
    CallsD Tryz.prog 154 #[.pointer (some a), .bool true] u w fun e u' w' => u' = u ∧ (e = .returned (.tuple #[]) ∧ w' = w.drew.setCell a (.int .u32 1)) := by
  have hc' : w.drew.cell? a = some x := by go_simp
  have hz' : w.drew.frozen? a = false := by go_simp
  have hst := run_call_store (P := Tryz.prog) Tryz.func165 (by kernel_rfl) (by kernel_rfl) (by kernel_rfl) (by kernel_rfl) (k := .u32) (y := 1) hc' hz'
  go_enter_d Tryz.func154, Tryz.ntmps154
  go_wp2
  go_region_calls
  all_goals (go_end0; exact ⟨rfl, rfl⟩)

set_option maxRecDepth 100000 in
set_option maxHeartbeats 800000 in
theorem unlock_deferred (a : Addr) (u : FrameMode) (w : World) (hc : w.cell? a = some (.int .i32 1)) (hz : w.frozen? a = false) :
    CallsD Tryz.prog 153 #[.pointer (some a)] u w fun e u' w' => u' = u ∧ (e = .returned (.tuple #[]) ∧ w' = w.setCell a (.int .i32 0)) := by
  have hd := disable
  have he := enable
  have hr := releaseMerge
  have hadd := run_call_add (P := Tryz.prog) Tryz.func177 (by kernel_rfl) (by kernel_rfl) (by kernel_rfl) .i32 (by kernel_rfl) (y := -1) (s := 0) hc hz (by simp [go_sem]; rfl)
  have hcv := run_convert_to_unsafe (P := Tryz.prog) (src := 206) (dst := 210) Tryz.underlying206 Tryz.underlying210 (by kernel_rfl) hc
  go_enter_d Tryz.func153, Tryz.ntmps153
  go_wp2
  go_end0
  go_wp2
  go_end0
  exact ⟨rfl, rfl⟩

set_option maxRecDepth 100000 in
set_option maxHeartbeats 800000 in
theorem lock_free (a : Addr) (w : World) (hc : w.cell? a = some (.int .i32 0)) (hz : w.frozen? a = false) :
    Calls Tryz.prog 152 #[.pointer (some a)] w fun e w' => e = .returned (.tuple #[]) ∧ w' = w.setCell a (.int .i32 1) := by
  have hd := disable
  have he := enable
  have ha := acquire
  have hcas := run_call_cas_hit (P := Tryz.prog) Tryz.func172 (by kernel_rfl) (by kernel_rfl) (by kernel_rfl) .i32 (by kernel_rfl) (y := 1) hc hz
  have hc' : (w.setCell a (.int .i32 1)).cell? a = some (.int .i32 1) := World.cell?_setCell_same w a _ hc
  have hcv := run_convert_to_unsafe (P := Tryz.prog) (src := 206) (dst := 210) Tryz.underlying206 Tryz.underlying210 (by kernel_rfl) hc'
  go_enter Tryz.func152, Tryz.ntmps152
  go_wp2
  first | go_end0 | (simp only [Exit.inBlock, Exit.then]; refine bodyPost_ret (results_none rfl _ _ _) rfl ?_) | refine bodyPost_ret (results_none rfl _ _ _) rfl ?_
  go_wp2
  go_end0
  exact ⟨rfl, rfl⟩

/-- What the slow way leaves behind: C of the world behind the function's own call, then 'done' is stored and the lock let go. -/
def SlowPost (b off : Nat) (C : World → Prop) (e : Ending) (w' : World) : Prop :=
  e = .returned (.tuple #[]) ∧ ∃ w2, C w2 ∧ w' = (w2.drew.setCell ⟨b, off, none⟩ (.int .u32 1)).setCell ⟨b, off + 1, none⟩ (.int .i32 0)

set_option maxRecDepth 100000 in
set_option maxHeartbeats 1600000 in
theorem slow_any (b off : Nat) (pl : Addr) (C : World → Prop) (w : World)
    (h0 : w.cell? ⟨b, off, none⟩ = some (.int .u32 0)) (h1 : w.cell? ⟨b, off + 1, none⟩ = some (.int .i32 0))
    (f0 : w.frozen? ⟨b, off, none⟩ = false) (f1 : w.frozen? ⟨b, off + 1, none⟩ = false)
    (hclo : Calls Tryz.prog 179 #[.pointer (some pl)] (w.setCell ⟨b, off + 1, none⟩ (.int .i32 1)) fun e w2 => e = .returned (.tuple #[]) ∧ C w2)
    (hC : ∀ w2, C w2 → w2.cell? ⟨b, off, none⟩ = some (.int .u32 0) ∧ w2.cell? ⟨b, off + 1, none⟩ = some (.int .i32 1) ∧ w2.frozen? ⟨b, off, none⟩ = false ∧ w2.frozen? ⟨b, off + 1, none⟩ = false) :
    Calls Tryz.prog 143 #[.pointer (some ⟨b, off, none⟩), .func (.func 179) #[] #[.pointer (some pl)]] w (SlowPost b off C) := by
  have hl := run_call_load (P := Tryz.prog) Tryz.func151 (by kernel_rfl) (by kernel_rfl) (by kernel_rfl) .u32 (by kernel_rfl) (w := w.setCell ⟨b, off + 1, none⟩ (.int .i32 1)) (a := ⟨b, off, none⟩) (x := 0) ((World.cell?_setCell_other _ ⟨b, off + 1, none⟩ ⟨b, off, none⟩ _ (by simp)).trans h0)
  have hnot : ∀ (x : Bool) (w : World), (Op.unary .not (.bool x)).run Tryz.prog w = .ok (.bool (!x)) w := fun _ _ => rfl
  have Hclo := Lib.hid hclo
  have HC := Lib.hid hC
  clear hclo hC
  go_enter_defers Tryz.func143, Tryz.ntmps143
  go_wp2_with (go_at_call 152; refine (lock_free ⟨b, off + 1, none⟩ _ (by go_simp) (by go_simp)).mono ?_; rintro e w' ⟨rfl, rfl⟩)
  go_wp2_with (first | (go_at_call 179; refine Hclo.out.mono ?_; rintro e w2 ⟨rfl, hC2⟩) | (go_at_call 142; go_in))
  obtain ⟨x0, x1, y0, y1⟩ := HC.out _ hC2
  refine leaves_cons (f := 154) (args := #[.pointer (some ⟨b, off, none⟩), .bool true]) (by simp) (by simp [go_sem]) ?_
  refine (store_deferred ⟨b, off, none⟩ (.int .u32 0) .returning _ x0 y0).mono ?_
  rintro e u' w'' ⟨rfl, rfl, rfl⟩
  refine leaves_cons (f := 153) (args := #[.pointer (some ⟨b, off + 1, none⟩)]) (by simp [settle]) (by simp [go_sem]) ?_
  refine (unlock_deferred ⟨b, off + 1, none⟩ _ _ ?_ (by simp [y1])).mono ?_
  · exact (World.cell?_setCell_other _ ⟨b, off, none⟩ ⟨b, off + 1, none⟩ _ (by simp)).trans x1
  rintro e u' w'' ⟨rfl, rfl, rfl⟩
  have hC3 := Lib.hid hC2
  clear hC2
  simp [Leaves, settle, results, Tryz.results143]
  exact ⟨rfl, _, hC3.out, rfl⟩

set_option maxRecDepth 100000 in
set_option maxHeartbeats 1600000 in
/-- '(*sync.Once).Do', not yet done, the lock free. -/
theorem do_first (b off : Nat) (pl : Addr) (C : World → Prop) (w : World)
    (h0 : w.cell? ⟨b, off, none⟩ = some (.int .u32 0)) (h1 : w.cell? ⟨b, off + 1, none⟩ = some (.int .i32 0))
    (f0 : w.frozen? ⟨b, off, none⟩ = false) (f1 : w.frozen? ⟨b, off + 1, none⟩ = false)
    (hclo : Calls Tryz.prog 179 #[.pointer (some pl)] (w.setCell ⟨b, off + 1, none⟩ (.int .i32 1)) fun e w2 => e = .returned (.tuple #[]) ∧ C w2)
    (hC : ∀ w2, C w2 → w2.cell? ⟨b, off, none⟩ = some (.int .u32 0) ∧ w2.cell? ⟨b, off + 1, none⟩ = some (.int .i32 1) ∧ w2.frozen? ⟨b, off, none⟩ = false ∧ w2.frozen? ⟨b, off + 1, none⟩ = false) :
    Calls Tryz.prog 136 #[.pointer (some ⟨b, off, none⟩), .func (.func 179) #[] #[.pointer (some pl)]] w (SlowPost b off C) := by
  have hl := run_call_load (P := Tryz.prog) Tryz.func151 (by kernel_rfl) (by kernel_rfl) (by kernel_rfl) .u32 (by kernel_rfl) h0
  have hnot : ∀ (x : Bool) (w : World), (Op.unary .not (.bool x)).run Tryz.prog w = .ok (.bool (!x)) w := fun _ _ => rfl
  have Hs := Lib.hid (slow_any b off pl C w h0 h1 f0 f1 hclo hC)
  clear hclo hC
  go_enter Tryz.func136, Tryz.ntmps136
  go_wp2_with (first | (go_at_call 143; refine Hs.out.mono ?_; rintro e w' ⟨rfl, hC⟩) | (go_at_call 142; go_in))
  go_end0
  exact ⟨rfl, hC⟩

/-- '(*sync.Once).Do', done already: the function is not called. -/
theorem do_done (a : Addr) (fv : Value) (w : World) (h0 : w.cell? a = some (.int .u32 1)) :
    Calls Tryz.prog 136 #[.pointer (some a), fv] w fun e w' => e = .returned (.tuple #[]) ∧ w' = w := by
  have hl := run_call_load (P := Tryz.prog) Tryz.func151 (by kernel_rfl) (by kernel_rfl) (by kernel_rfl) .u32 (by kernel_rfl) h0
  have hnot : ∀ (x : Bool) (w : World), (Op.unary .not (.bool x)).run Tryz.prog w = .ok (.bool (!x)) w := fun _ _ => rfl
  go_enter Tryz.func136, Tryz.ntmps136
  go_wp2
  go_end0
  exact ⟨rfl, rfl⟩

end Go.Proofs.YtfaeechidjpjbaaGreat

namespace Go.Proofs.YtfaeechidjpjbaaGreat

set_option linter.unusedVariables false

def H0 : List UInt32 := [1779033703, 3144134277, 1013904242, 2773480762, 1359893119, 2600822924, 528734635, 1541459225]

def KK : List UInt32 := [1116352408, 1899447441, 3049323471, 3921009573, 961987163, 1508970993, 2453635748, 2870763221, 3624381080, 310598401, 607225278, 1426881987, 1925078388, 2162078206, 2614888103, 3248222580, 3835390401, 4022224774, 264347078, 604807628, 770255983, 1249150122, 1555081692, 1996064986, 2554220882, 2821834349, 2952996808, 3210313671, 3336571891, 3584528711, 113926993, 338241895, 666307205, 773529912, 1294757372, 1396182291, 1695183700, 1986661051, 2177026350, 2456956037, 2730485921, 2820302411, 3259730800, 3345764771, 3516065817, 3600352804, 4094571909, 275423344, 430227734, 506948616, 659060556, 883997877, 958139571, 1322822218, 1537002063, 1747873779, 1955562222, 2024104815, 2227730452, 2361852424, 2428436474, 2756734187, 3204031479, 3329325298]

/-- The eight words of a state. -/
structure S8 where
  a : UInt32
  b : UInt32
  c : UInt32
  d : UInt32
  e : UInt32
  f : UInt32
  g : UInt32
  h : UInt32
deriving DecidableEq

def S8.list (s : S8) : List UInt32 := [s.a, s.b, s.c, s.d, s.e, s.f, s.g, s.h]

def S8.first : S8 := ⟨1779033703, 3144134277, 1013904242, 2773480762, 1359893119, 2600822924, 528734635, 1541459225⟩

def tee (s : S8) (k w : UInt32) : UInt32 := s.h + (rotr s.e 6 ^^^ rotr s.e 11 ^^^ rotr s.e 25) + ((s.e &&& s.f) ^^^ (~~~s.e &&& s.g)) + k + w

def uuu (s : S8) : UInt32 := (rotr s.a 2 ^^^ rotr s.a 13 ^^^ rotr s.a 22) + ((s.a &&& s.b) ^^^ (s.a &&& s.c) ^^^ (s.b &&& s.c))

def step8 (s : S8) (k w : UInt32) : S8 := ⟨tee s k w + uuu s, s.a, s.b, s.c, s.d + tee s k w, s.e, s.f, s.g⟩

def steps8 (bs : List UInt8) (s : S8) : Nat → S8
  | 0 => s
  | n + 1 => step8 (steps8 bs s n) (KK.getD n 0) (wt bs n)

def S8.add (x y : S8) : S8 := ⟨x.a + y.a, x.b + y.b, x.c + y.c, x.d + y.d, x.e + y.e, x.f + y.f, x.g + y.g, x.h + y.h⟩

/-- The state that took the block in. -/
def rnd (s : S8) (bs : List UInt8) : S8 := (steps8 bs s 64).add s

/-! ### A step can be taken back -/

theorem step8_inj {x y : S8} {k w : UInt32} (h : step8 x k w = step8 y k w) : x = y := by
  obtain ⟨a, b, c, d, e, f, g, h'⟩ := x
  obtain ⟨a2, b2, c2, d2, e2, f2, g2, h2⟩ := y
  unfold step8 at h
  simp only [S8.mk.injEq] at h
  obtain ⟨h1, rfl, rfl, rfl, h5, rfl, rfl, rfl⟩ := h
  have hu : uuu ⟨a, b, c, d, e, f, g, h'⟩ = uuu ⟨a, b, c, d2, e, f, g, h2⟩ := rfl
  rw [hu] at h1
  have ht : tee ⟨a, b, c, d, e, f, g, h'⟩ k w = tee ⟨a, b, c, d2, e, f, g, h2⟩ k w := (UInt32.add_left_inj _).1 h1
  rw [ht] at h5
  have hd : d = d2 := (UInt32.add_left_inj _).1 h5
  unfold tee at ht
  simp only at ht
  have hh : h' = h2 := by
    have q1 := (UInt32.add_left_inj _).1 ht
    have q2 := (UInt32.add_left_inj _).1 q1
    have q3 := (UInt32.add_left_inj _).1 q2
    exact (UInt32.add_left_inj _).1 q3
  rw [hd, hh]

theorem steps8_inj {bs : List UInt8} {x y : S8} {n : Nat} (h : steps8 bs x n = steps8 bs y n) : x = y := by
  induction n with
  | zero => exact h
  | succ n ih => exact ih (step8_inj h)

theorem S8.sub_add (x y : S8) : (x.add y).a - y.a = x.a ∧ (x.add y).b - y.b = x.b ∧ (x.add y).c - y.c = x.c ∧ (x.add y).d - y.d = x.d ∧ (x.add y).e - y.e = x.e ∧ (x.add y).f - y.f = x.f ∧ (x.add y).g - y.g = x.g ∧ (x.add y).h - y.h = x.h := by
  simp only [S8.add, UInt32.add_sub_cancel, and_self]

/-! ### The same, to be reckoned -/

def be16 (bs : List UInt8) : List UInt32 := (List.range 16).map fun t => be4 (bs.getD (4 * t) 0) (bs.getD (4 * t + 1) 0) (bs.getD (4 * t + 2) 0) (bs.getD (4 * t + 3) 0)

/-- The schedule, the newest word first. -/
def more : Nat → List UInt32 → List UInt32
  | 0, r => r
  | n + 1, r => more n ((r.getD 15 0 + s0 (r.getD 14 0) + r.getD 6 0 + s1 (r.getD 1 0)) :: r)

def upto (bs : List UInt8) (t : Nat) : List UInt32 := ((List.range t).map (wt bs)).reverse

theorem upto_succ (bs : List UInt8) (t : Nat) : upto bs (t + 1) = wt bs t :: upto bs t := by
  simp [upto, List.range_succ]

theorem upto_at {bs : List UInt8} {t j : Nat} (h : j < t) : (upto bs t).getD j 0 = wt bs (t - 1 - j) := by
  unfold upto
  rw [List.getD_eq_getElem?_getD, List.getElem?_reverse (by simp; omega), List.getElem?_map, List.length_map, List.length_range, List.getElem?_range (by omega)]
  rfl

theorem more_upto (bs : List UInt8) (n : Nat) : ∀ t, 16 ≤ t → more n (upto bs t) = upto bs (t + n) := by
  induction n with
  | zero => intro t _; rfl
  | succ n ih =>
    intro t ht
    rw [more, upto_at (by omega), upto_at (by omega), upto_at (by omega), upto_at (by omega)]
    have e : wt bs (t - 1 - 15) + s0 (wt bs (t - 1 - 14)) + wt bs (t - 1 - 6) + s1 (wt bs (t - 1 - 1)) = wt bs t := by
      rw [wt_high ht]
      have e1 : t - 1 - 15 = t - 16 := by omega
      have e2 : t - 1 - 14 = t - 15 := by omega
      have e3 : t - 1 - 6 = t - 7 := by omega
      have e4 : t - 1 - 1 = t - 2 := by omega
      rw [e1, e2, e3, e4]
    rw [e, ← upto_succ, ih (t + 1) (by omega)]
    congr 1
    omega

theorem upto16 (bs : List UInt8) : upto bs 16 = (be16 bs).reverse := by
  unfold upto be16
  congr 1
  apply List.map_congr_left
  intro t ht
  rw [List.mem_range] at ht
  exact wt_low ht

def fastS (bs : List UInt8) : List UInt32 := (more 48 (be16 bs).reverse).reverse

theorem fastS_eq (bs : List UInt8) : fastS bs = (List.range 64).map (wt bs) := by
  unfold fastS
  rw [← upto16, more_upto bs 48 16 (by omega)]
  simp [upto]

def run8 (s : S8) : List UInt32 → List UInt32 → S8
  | k :: ks, w :: ws => run8 (step8 s k w) ks ws
  | _, _ => s

theorem run8_take (bs : List UInt8) (s : S8) (ks ws : List UInt32) : ∀ i, (∀ j, j < ks.length → ks.getD j 0 = KK.getD (i + j) 0) → (∀ j, j < ks.length → ws[j]? = some (wt bs (i + j))) → run8 (steps8 bs s i) ks ws = steps8 bs s (i + ks.length) := by
  induction ks generalizing ws with
  | nil => intro i _ _; cases ws <;> rfl
  | cons k ks ih =>
    intro i h1 h2
    cases ws with
    | nil => have := h2 0 (by simp); simp at this
    | cons w ws =>
      have hk := h1 0 (by simp)
      have hw := h2 0 (by simp)
      simp at hk hw
      rw [run8, hk, hw]
      have : step8 (steps8 bs s i) (KK[i]?.getD 0) (wt bs i) = steps8 bs s (i + 1) := by rw [steps8]; simp
      rw [this, ih ws (i + 1) (fun j hj => ?_) (fun j hj => ?_)]
      · congr 1; simp; omega
      · have := h1 (j + 1) (by simp; omega)
        rw [show i + 1 + j = i + (j + 1) from by omega, ← this]
        simp
      · have := h2 (j + 1) (by simp; omega)
        rw [show i + 1 + j = i + (j + 1) from by omega, ← this]
        simp

def rndF (s : S8) (bs : List UInt8) : S8 := (run8 s KK (fastS bs)).add s

theorem rnd_fast (s : S8) (bs : List UInt8) : rnd s bs = rndF s bs := by
  unfold rnd rndF
  have := run8_take bs s KK (fastS bs) 0 (fun j _ => by rw [Nat.zero_add]) (fun j hj => by
    have hj' : j < 64 := hj
    rw [fastS_eq, Nat.zero_add]
    simp [hj'])
  rw [show steps8 bs s 0 = s from rfl] at this
  rw [this]
  rfl

/-! ### The digest -/

def be8 (n : Nat) : List UInt8 := (List.range 8).map fun i => UInt8.ofNat (n / 256 ^ (7 - i) % 256)

/-- How many bytes 0 stand between. -/
def gap (n : Nat) : Nat := (119 - n % 64) % 64

def pad (l : List UInt8) : List UInt8 := l ++ (128 :: (List.replicate (gap l.length) 0 ++ be8 (8 * l.length)))

def eat (s : S8) : Nat → List UInt8 → S8
  | 0, _ => s
  | n + 1, l => eat (rnd s (l.take 64)) n (l.drop 64)

def wordB (x : UInt32) : List UInt8 := [UInt8.ofNat (x.toNat / 16777216 % 256), UInt8.ofNat (x.toNat / 65536 % 256), UInt8.ofNat (x.toNat / 256 % 256), UInt8.ofNat (x.toNat % 256)]

def S8.bytes (s : S8) : List UInt8 := s.list.flatMap wordB

def digest (l : List UInt8) : List UInt8 := (eat S8.first ((pad l).length / 64) (pad l)).bytes

def eatF (s : S8) : Nat → List UInt8 → S8
  | 0, _ => s
  | n + 1, l => eatF (rndF s (l.take 64)) n (l.drop 64)

theorem eat_fast (n : Nat) : ∀ (s : S8) (l : List UInt8), eat s n l = eatF s n l := by
  induction n with
  | zero => intro s l; rfl
  | succ n ih => intro s l; rw [eat, eatF, rnd_fast, ih]

def digF (l : List UInt8) : List UInt8 := (eatF S8.first ((pad l).length / 64) (pad l)).bytes

theorem dig_fast (l : List UInt8) : digest l = digF l := by unfold digest digF; rw [eat_fast]

theorem dig_abc : digest [97, 98, 99] = [186, 120, 22, 191, 143, 1, 207, 234, 65, 65, 64, 222, 93, 174, 34, 35, 176, 3, 97, 163, 150, 23, 122, 156, 180, 16, 255, 97, 242, 0, 21, 173] := by
  rw [dig_fast]; decide +kernel

theorem dig_none : digest [] = [227, 176, 196, 66, 152, 252, 28, 20, 154, 251, 244, 200, 153, 111, 185, 36, 39, 174, 65, 228, 100, 155, 147, 76, 164, 149, 153, 27, 120, 82, 184, 85] := by
  rw [dig_fast]; decide +kernel

theorem dig_long : digest [97, 98, 99, 100, 98, 99, 100, 101, 99, 100, 101, 102, 100, 101, 102, 103, 101, 102, 103, 104, 102, 103, 104, 105, 103, 104, 105, 106, 104, 105, 106, 107, 105, 106, 107, 108, 106, 107, 108, 109, 107, 108, 109, 110, 108, 109, 110, 111, 109, 110, 111, 112, 110, 111, 112, 113] = [36, 141, 106, 97, 210, 6, 56, 184, 229, 192, 38, 147, 12, 62, 96, 57, 163, 60, 228, 89, 100, 255, 33, 103, 246, 236, 237, 212, 25, 219, 6, 193] := by
  rw [dig_fast]; decide +kernel

theorem dig_thousand : digest (List.replicate 1000 97) = [65, 237, 236, 228, 45, 99, 232, 217, 191, 81, 90, 155, 166, 147, 46, 28, 32, 203, 201, 245, 165, 209, 52, 100, 90, 219, 93, 177, 185, 115, 126, 163] := by
  rw [dig_fast]; decide +kernel

end Go.Proofs.YtfaeechidjpjbaaGreat

namespace Go.Proofs.YtfaeechidjpjbaaGreat

set_option linter.unusedVariables false

/-! ### The sieve -/

def crossF : Nat → Nat → Nat → List Bool → List Bool
  | 0, _, _, C => C
  | f + 1, n, m, C => if m ≤ 311 then crossF f n (m + n) (C.set m true) else C

theorem crossF_end {f n m : Nat} {C : List Bool} (h : 311 < m) : crossF f n m C = C := by
  cases f with
  | zero => rfl
  | succ f => rw [crossF, if_neg (by omega)]

theorem crossF_step {f n m : Nat} {C : List Bool} (h : m ≤ 311) : crossF (f + 1) n m C = crossF f n (m + n) (C.set m true) := by
  rw [crossF, if_pos h]

theorem crossF_len (f n : Nat) : ∀ m C, (crossF f n m C).length = C.length := by
  induction f with
  | zero => intro m C; rfl
  | succ f ih =>
    intro m C
    rw [crossF]
    split
    · rw [ih, List.length_set]
    · rfl

structure Sv where
  found : Nat
  out : List Nat
  crossed : List Bool

def Sv.step (s : Sv) (n : Nat) : Sv :=
  if s.crossed.getD n false = true then s else ⟨s.found + 1, s.out.set s.found n, crossF 312 n (n * n) s.crossed⟩

def Sv.start : Sv := ⟨0, List.replicate 64 0, List.replicate 312 false⟩

def sv : Nat → Sv
  | 0 => Sv.start
  | i + 1 => (sv i).step (i + 2)

def svOk : Nat → Nat → Sv → Bool
  | 0, _, s => true
  | f + 1, i, s => (s.crossed.getD (i + 2) false || decide (s.found < 64)) && svOk f (i + 1) (s.step (i + 2))

theorem svOk_at (f : Nat) : ∀ i, svOk f i (sv i) = true → ∀ j, i ≤ j → j < i + f → (sv j).crossed.getD (j + 2) false = true ∨ (sv j).found < 64 := by
  induction f with
  | zero => intro i _ j h1 h2; omega
  | succ f ih =>
    intro i h j h1 h2
    rw [svOk, Bool.and_eq_true, Bool.or_eq_true, decide_eq_true_iff] at h
    by_cases e : j = i
    · subst e; exact h.1
    · exact ih (i + 1) h.2 j (by omega) (by omega)

theorem sv_lens (i : Nat) : (sv i).out.length = 64 ∧ (sv i).crossed.length = 312 := by
  induction i with
  | zero => exact ⟨List.length_replicate, List.length_replicate⟩
  | succ i ih =>
    rw [sv, Sv.step]
    split
    · exact ih
    · exact ⟨by simp only [List.length_set]; exact ih.1, by rw [crossF_len]; exact ih.2⟩

theorem sv_room : svOk 310 0 (sv 0) = true := by decide +kernel

theorem sv_found {i : Nat} (h : i < 310) (hc : (sv i).crossed.getD (i + 2) false = false) : (sv i).found < 64 := by
  have hr := sv_room
  have hx := svOk_at 310 0
  generalize (310 : Nat) = f at hr hx h
  have hi : i < 0 + f := by omega
  rcases hx hr i (Nat.zero_le _) hi with h1 | h1
  · rw [hc] at h1; cases h1
  · exact h1

def PP : List Nat := [2, 3, 5, 7, 11, 13, 17, 19, 23, 29, 31, 37, 41, 43, 47, 53, 59, 61, 67, 71, 73, 79, 83, 89, 97, 101, 103, 107, 109, 113, 127, 131, 137, 139, 149, 151, 157, 163, 167, 173, 179, 181, 191, 193, 197, 199, 211, 223, 227, 229, 233, 239, 241, 251, 257, 263, 269, 271, 277, 281, 283, 293, 307, 311]

theorem sv_end : (sv 310).out = PP := by decide +kernel

/-! ### The quotient, as it is reckoned -/

/-- One digit, brought down while it is too great. -/
def adj : Nat → Nat → Nat → Nat → Nat → Nat
  | 0, _, _, q, _ => q
  | f + 1, y1, y0, q, r =>
    if 4294967296 ≤ q ∨ 4294967296 * r % 18446744073709551616 < q * y0 % 18446744073709551616 then
      (if 4294967296 ≤ r + y1 then q - 1 else adj f y1 y0 (q - 1) (r + y1))
    else q

/-- How far a divisor is turned left. -/
def lead (y : Nat) : Nat := 64 - Lib.bitLen y

def qa (hi y : Nat) : Nat :=
  let t := y * 2 ^ lead y % 18446744073709551616
  let u := hi * 2 ^ lead y % 18446744073709551616
  adj 8 (t / 4294967296) (t % 4294967296) (u / (t / 4294967296)) (u % (t / 4294967296))

def ua (hi y : Nat) : Int := (((hi * 2 ^ lead y % 18446744073709551616 : Nat) : Int) * 4294967296 - (qa hi y : Int) * ((y * 2 ^ lead y % 18446744073709551616 : Nat) : Int)) % 18446744073709551616

def qb (hi y : Nat) : Nat :=
  let t := y * 2 ^ lead y % 18446744073709551616
  let u := (ua hi y).toNat
  adj 8 (t / 4294967296) (t % 4294967296) (u / (t / 4294967296)) (u % (t / 4294967296))

def quo (hi y : Nat) : Nat := (qa hi y * 4294967296 + qb hi y) % 18446744073709551616

/-! ### The root, as it is reckoned -/

def high (x : Nat) : Nat := x * x / 18446744073709551616

def low (x : Nat) : Nat := x * x % 18446744073709551616

def big (p x : Nat) : Bool := decide (p * 4294967296 ≤ (high x * x % 18446744073709551616 + low x * x / 18446744073709551616) % 18446744073709551616)

def dvs (x : Nat) : Nat := (high x * 144115188075855872 % 18446744073709551616) ||| (low x / 128)

def nxt (p x : Nat) : Nat := min ((2 * x + quo (p * 33554432) (dvs x)) % 18446744073709551616 / 3) (x - 1)

def newt : Nat → Nat → Nat → Nat
  | 0, _, x => x
  | f + 1, p, x => if big p x then newt f p (nxt p x) else x

/-- The root and the words, behind so many primes (the last one first). -/
structure Rt where
  root : Nat
  out : List Nat

def rtS : Nat → Rt
  | 0 => ⟨30064771072, List.replicate 64 0⟩
  | i + 1 => ⟨newt 16 (PP.getD (63 - i) 0) (rtS i).root, (rtS i).out.set (63 - i) (newt 16 (PP.getD (63 - i) 0) (rtS i).root % 4294967296)⟩

theorem rt_end : (rtS 64).out = KK.map UInt32.toNat := by decide +kernel

end Go.Proofs.YtfaeechidjpjbaaGreat

namespace Go.Proofs.YtfaeechidjpjbaaGreat

open Go.RowKit

set_option linter.unusedVariables false

def DivRet (q : Nat) (w : World) (e : Ending) (w' : World) : Prop := (∃ r : Int, e = .returned (.tuple #[.int .u64 (q : Int), .int .u64 r])) ∧ w' = w

theorem wrap_nat (n : Nat) : IntKind.u64.wrap (n : Int) = ((n % 18446744073709551616 : Nat) : Int) := by
  rw [IntKind.wrap_u64]; omega

theorem and_mask (n : Nat) (h : n < 18446744073709551616) : bits .and .u64 (n : Int) 4294967295 = ((n % 4294967296 : Nat) : Int) := by
  have h := (bits_nat .u64 64 (by decide) (fun n h0 h1 => by rw [IntKind.wrap_u64]; omega) n 4294967295 (by simpa using h) (by decide)).1
  rw [show (4294967295 : Int) = ((4294967295 : Nat) : Int) from rfl, h]
  congr 1
  exact Nat.and_two_pow_sub_one_eq_mod n 32

theorem or_zero (n : Nat) (h : n < 18446744073709551616) : bits .or .u64 (n : Int) 0 = (n : Int) := by
  have h := (bits_nat .u64 64 (by decide) (fun n h0 h1 => by rw [IntKind.wrap_u64]; omega) n 0 (by simpa using h) (by decide)).2
  rw [show (0 : Int) = ((0 : Nat) : Int) from rfl, h, Nat.or_zero]

theorem bitLenAux_le (f : Nat) : ∀ x, Lib.bitLenAux f x ≤ f := by
  induction f with
  | zero => intro x; exact Nat.le_refl _
  | succ f ih => intro x; rw [Lib.bitLenAux]; split; omega; have := ih (x / 2); omega

theorem adj_stop {f y1 y0 q r : Nat} (h1 : q < 4294967296) (h2 : ¬ 4294967296 * r % 18446744073709551616 < q * y0 % 18446744073709551616) : adj f y1 y0 q r = q := by
  cases f with
  | zero => rfl
  | succ f => rw [adj, if_neg (by omega)]

theorem adj_last {f y1 y0 q r : Nat} (h : 4294967296 ≤ q ∨ 4294967296 * r % 18446744073709551616 < q * y0 % 18446744073709551616) (h2 : 4294967296 ≤ r + y1) : adj (f + 1) y1 y0 q r = q - 1 := by
  rw [adj, if_pos h, if_pos h2]

theorem adj_more {f y1 y0 q r : Nat} (h : 4294967296 ≤ q ∨ 4294967296 * r % 18446744073709551616 < q * y0 % 18446744073709551616) (h2 : ¬ 4294967296 ≤ r + y1) : adj (f + 1) y1 y0 q r = adj f y1 y0 (q - 1) (r + y1) := by
  rw [adj, if_pos h, if_neg h2]

/-- What one round of a loop wants to know. -/
theorem adj_facts {a b g t0 t1 Z : Nat} (ha : a < 18446744073709551616) (hb : b < 4294967296) (ht : t1 < 4294967296) (hadj : Z = adj (g + 1) t1 t0 a b) :
    ∃ m1 m2 d : Nat, IntKind.u64.wrap ((a : Int) * (t0 : Int)) = (m2 : Int) ∧ IntKind.u64.wrap (4294967296 * (b : Int)) = (m1 : Int) ∧ IntKind.u64.wrap (m1 : Int) = (m1 : Int) ∧ IntKind.u64.wrap ((b : Int) + (t1 : Int)) = (d : Int) ∧ d = b + t1 ∧
      ((¬ 4294967296 ≤ a ∧ ¬ m1 < m2) → Z = a) ∧ (4294967296 ≤ a ∨ m1 < m2 → IntKind.u64.wrap ((a : Int) - 1) = ((a - 1 : Nat) : Int) ∧ (4294967296 ≤ d → Z = a - 1) ∧ (¬ 4294967296 ≤ d → Z = adj g t1 t0 (a - 1) d)) := by
  refine ⟨4294967296 * b % 18446744073709551616, a * t0 % 18446744073709551616, b + t1, ?_, ?_, ?_, ?_, rfl, ?_, ?_⟩
  · rw [← wrap_nat]; simp
  · rw [← wrap_nat]; simp
  · rw [wrap_nat, Nat.mod_mod]
  · rw [← Int.natCast_add, wrap_nat, Nat.mod_eq_of_lt (by omega)]
  · rintro ⟨h1, h2⟩; rw [hadj, adj_stop (by omega) h2]
  · intro h
    have h1 : 1 ≤ a := by
      rcases h with h | h
      · omega
      · rcases Nat.eq_zero_or_pos a with e | e
        · rw [e, Nat.zero_mul] at h; omega
        · exact e
    refine ⟨?_, fun h2 => ?_, fun h2 => ?_⟩
    · rw [show ((a : Int) - 1) = ((a - 1 : Nat) : Int) from by omega, wrap_nat, Nat.mod_eq_of_lt (by omega)]
    · rw [hadj, adj_last h h2]
    · rw [hadj, adj_more h h2]

theorem ua_facts {u q t : Nat} {v : Int} (h : v = ((u : Int) * 4294967296 - (q : Int) * (t : Int)) % 18446744073709551616) :
    ∃ x1 x2 : Nat, IntKind.u64.wrap ((u : Int) * 4294967296) = (x1 : Int) ∧ IntKind.u64.wrap (x1 : Int) = (x1 : Int) ∧ IntKind.u64.wrap ((q : Int) * (t : Int)) = (x2 : Int) ∧
      IntKind.u64.wrap ((x1 : Int) - (x2 : Int)) = (v.toNat : Int) ∧ v.toNat < 18446744073709551616 := by
  refine ⟨u * 4294967296 % 18446744073709551616, q * t % 18446744073709551616, ?_, ?_, ?_, ?_, ?_⟩
  · rw [← wrap_nat]; simp
  · rw [wrap_nat, Nat.mod_mod]
  · rw [← wrap_nat]; simp
  · rw [← Int.natCast_mul] at h
    rw [IntKind.wrap_u64]
    omega
  · rw [← Int.natCast_mul] at h
    omega

set_option maxRecDepth 100000 in
set_option maxHeartbeats 1600000 in
theorem div64_any (hi y : Nat) (w : World) (h0 : 0 < hi) (h1 : hi < y) (h2 : y < 18446744073709551616) (h3 : lead y ≤ 63)
    (h4 : 2147483648 ≤ y * 2 ^ lead y % 18446744073709551616 / 4294967296) :
    Calls Tryz.prog 197 #[.int .u64 (hi : Int), .int .u64 0, .int .u64 (y : Int)] w (DivRet (quo hi y) w) := by
  have g0 : (0 : Int) < (hi : Int) := by omega
  have g1 : (hi : Int) < (y : Int) := by omega
  have g2 : (y : Int) ≤ 18446744073709551615 := by omega
  have n0 : ((y : Int) == 0) = false := by simp; omega
  have n1 : ((hi : Int) == 0) = false := by simp; omega
  have hlz : Calls Tryz.prog 198 #[.int .u64 (y : Int)] w fun e w' => e = .returned (.int .i64 (lead y : Int)) ∧ w' = w := by
    refine (Tryz.bits_LeadingZeros64 (y : Int) w (by omega) (by omega)).mono ?_
    rintro e w' ⟨rfl, rfl⟩
    refine ⟨?_, rfl⟩
    have hb : Lib.bitLen y ≤ 64 := bitLenAux_le 64 y
    unfold lead
    rw [Int.toNat_natCast]
    congr 2
    omega
  have Hlz := Lib.hid hlz
  clear hlz
  have hq1 : quo hi y = (qa hi y * 4294967296 + qb hi y) % 18446744073709551616 := rfl
  have hqa : qa hi y = adj 8 (y * 2 ^ lead y % 18446744073709551616 / 4294967296) (y * 2 ^ lead y % 18446744073709551616 % 4294967296) (hi * 2 ^ lead y % 18446744073709551616 / (y * 2 ^ lead y % 18446744073709551616 / 4294967296)) (hi * 2 ^ lead y % 18446744073709551616 % (y * 2 ^ lead y % 18446744073709551616 / 4294967296)) := rfl
  have hua : ua hi y = (((hi * 2 ^ lead y % 18446744073709551616 : Nat) : Int) * 4294967296 - (qa hi y : Int) * ((y * 2 ^ lead y % 18446744073709551616 : Nat) : Int)) % 18446744073709551616 := rfl
  have hqb : qb hi y = adj 8 (y * 2 ^ lead y % 18446744073709551616 / 4294967296) (y * 2 ^ lead y % 18446744073709551616 % 4294967296) ((ua hi y).toNat / (y * 2 ^ lead y % 18446744073709551616 / 4294967296)) ((ua hi y).toNat % (y * 2 ^ lead y % 18446744073709551616 / 4294967296)) := rfl
  generalize quo hi y = Q at *
  generalize qa hi y = q1 at *
  generalize qb hi y = q0 at *
  generalize ua hi y = v at *
  generalize lead y = s at *
  have e1 : IntKind.u64.wrap ((y : Int) * 2 ^ s) = ((y * 2 ^ s % 18446744073709551616 : Nat) : Int) := by rw [← wrap_nat]; simp
  have e2 : IntKind.u64.wrap ((hi : Int) * 2 ^ s) = ((hi * 2 ^ s % 18446744073709551616 : Nat) : Int) := by rw [← wrap_nat]; simp
  have ht : y * 2 ^ s % 18446744073709551616 < 18446744073709551616 := Nat.mod_lt _ (by decide)
  have hu : hi * 2 ^ s % 18446744073709551616 < 18446744073709551616 := Nat.mod_lt _ (by decide)
  generalize y * 2 ^ s % 18446744073709551616 = t at *
  generalize hi * 2 ^ s % 18446744073709551616 = u at *
  have e3 := and_mask t ht
  have e4 := or_zero u hu
  have e5 : bits .and .u64 0 4294967295 = 0 := by decide
  have e6 : (t : Int) / 4294967296 = ((t / 4294967296 : Nat) : Int) := by omega
  have ht1 : t / 4294967296 < 4294967296 := by omega
  have ht0 : t % 4294967296 < 4294967296 := by omega
  generalize t / 4294967296 = t1 at *
  generalize t % 4294967296 = t0 at *
  have h4' : 2147483648 ≤ t1 := h4
  have e7 : IntKind.u64.wrap ((u : Int) / (t1 : Int)) = ((u / t1 : Nat) : Int) := by
    have : u / t1 ≤ u := Nat.div_le_self _ _
    rw [← Int.natCast_ediv, wrap_nat, Nat.mod_eq_of_lt (by omega)]
  have hd : u / t1 * t1 + u % t1 = u := by rw [Nat.mul_comm]; exact Nat.div_add_mod _ _
  have hm : u % t1 < t1 := Nat.mod_lt _ (by omega)
  have hd2 : u / t1 ≤ u := Nat.div_le_self _ _
  generalize u / t1 = qd at *
  generalize u % t1 = rm at *
  have e8 : IntKind.u64.wrap ((qd : Int) * (t1 : Int)) = ((qd * t1 : Nat) : Int) := by
    rw [← Int.natCast_mul, wrap_nat, Nat.mod_eq_of_lt (by omega)]
  generalize qd * t1 = pr at *
  have e9 : IntKind.u64.wrap ((u : Int) - (pr : Int)) = (rm : Int) := by
    rw [IntKind.wrap_u64]; omega
  have k1 : (s : Int) ≤ 63 := by omega
  have k2 : (0 : Int) ≤ (s : Int) := by omega
  have z1 : ¬ t1 = 0 := by omega
  have z2 : ¬ y ≤ hi := by omega
  have Hq1 := Lib.hid hq1
  have Hqa := Lib.hid hqa
  have Hqb := Lib.hid hqb
  have Hua := Lib.hid hua
  have Hall := Lib.hid (And.intro h4' (And.intro ht (And.intro hu (And.intro ht1 (And.intro ht0 (And.intro hm hd2))))))
  clear hq1 hqa hqb hua hd h0 h1 h2 h3 h4 h4' ht hu ht1 ht0 hm hd2
  go_enter Tryz.func197, Tryz.ntmps197
  go_upto_block 0 with (go_at_call 198; refine Hlz.out.mono ?_; rintro e w' ⟨rfl, rfl⟩)
  go_cut [15] (fun q wx => q = .int .u64 (q1 : Int) ∧ wx = w')
  case first =>
    go_wp2_with fail
    go_loopg [15, 16] 9 (fun f q r wr => ∃ a b g : Nat, f = g + 1 ∧ q = .int .u64 (a : Int) ∧ r = .int .u64 (b : Int) ∧ wr = w' ∧ a < 18446744073709551616 ∧ b < 4294967296 ∧ 4294967296 ≤ b + g * t1 ∧ q1 = adj g t1 t0 a b)
    case atStart =>
      obtain ⟨a1, a2, a3, a4, a5, a6, a7⟩ := Hall.out
      exact ⟨qd, rm, 8, rfl, rfl, rfl, rfl, by omega, by omega, by omega, Hqa.out⟩
    case round =>
      obtain ⟨a, b, g, hg, rfl, rfl, rfl, ha, hb, hf, hadj⟩ := hrel
      obtain ⟨a1, a2, a3, a4, a5, a6, a7⟩ := Hall.out
      obtain ⟨g', rfl⟩ : ∃ g', g = g' + 1 := ⟨g - 1, by
        rcases Nat.eq_zero_or_pos g with e | e
        · subst e; omega
        · omega⟩
      rw [Nat.succ_mul] at hf
      obtain ⟨m1, m2, d, f1, f2, f3, f4, hd, hz, hmore⟩ := adj_facts ha hb a4 hadj
      have Hc := Lib.hid (And.intro hg (And.intro ha (And.intro hb (And.intro hf (And.intro hadj hd)))))
      clear hg ha hb hf hadj hd a1 a2 a3 a4 a5 a6 a7
      by_cases c1 : 4294967296 ≤ a ∨ m1 < m2
      · obtain ⟨f5, hl, hm⟩ := hmore c1
        have Hl := Lib.hid hl
        have Hm := Lib.hid hm
        clear hl hm hz hmore
        have ha : (4294967296 : Int) ≤ (a : Int) ∨ ¬ (4294967296 : Int) ≤ (a : Int) ∧ m1 < m2 := by omega
        have hd : (4294967296 : Int) ≤ (d : Int) ∨ ¬ (4294967296 : Int) ≤ (d : Int) := by omega
        have hE0 : (0 : Int) ≤ ((a - 1 : Nat) : Int) := by omega
        generalize hA : (a : Int) = A at *
        generalize hB : (b : Int) = B at *
        generalize hD : (d : Int) = D at *
        generalize hE : ((a - 1 : Nat) : Int) = E at *
        have Hx := Lib.hid (And.intro hA (And.intro hB (And.intro hD (And.intro hE c1))))
        clear hA hB hD hE c1
        rcases ha with ha | ⟨ha, ha2⟩
        all_goals
          rcases hd with hd | hd
          · go_wp2
            obtain ⟨hA, hB, hD, hE, c1⟩ := Hx.out
            go_meet
            exact ⟨by rw [Hl.out (by omega), ← hE], rfl⟩
          · go_wp2
            obtain ⟨hA, hB, hD, hE, c1⟩ := Hx.out
            obtain ⟨hg, ha, hb, hf, hadj, hd⟩ := Hc.out
            go_roundg (g' + 1)
            case measure => omega
            case rel => exact ⟨a - 1, d, g', rfl, by rw [← hE], by rw [← hD], rfl, by omega, by omega, by omega, Hm.out (by omega)⟩
      · have ha : ¬ (4294967296 : Int) ≤ (a : Int) := by omega
        have hb : ¬ m1 < m2 := by omega
        have hz' := hz ⟨by omega, hb⟩
        have Hz := Lib.hid hz'
        clear hz hz' hmore
        generalize hA : (a : Int) = A at *
        generalize hB : (b : Int) = B at *
        generalize hD : (d : Int) = D at *
        have Hx := Lib.hid (And.intro hA (And.intro hB (And.intro hD c1)))
        clear hA hB hD c1
        go_wp2
        obtain ⟨hA, hB, hD, c1⟩ := Hx.out
        go_meet
        exact ⟨by rw [Hz.out, ← hA], rfl⟩
  case rest =>
    obtain ⟨rfl, rfl⟩ := hcut
    obtain ⟨a1, a2, a3, a4, a5, a6, a7⟩ := Hall.out
    obtain ⟨x1, x2, b1, b2, b3, b4, hvb⟩ := ua_facts Hua.out
    have hVb := hvb
    have hqb := Hqb.out
    generalize v.toNat = V at *
    have b5 : IntKind.u64.wrap ((V : Int) / (t1 : Int)) = ((V / t1 : Nat) : Int) := by
      have : V / t1 ≤ V := Nat.div_le_self _ _
      rw [← Int.natCast_ediv, wrap_nat, Nat.mod_eq_of_lt (by omega)]
    have hd : V / t1 * t1 + V % t1 = V := by rw [Nat.mul_comm]; exact Nat.div_add_mod _ _
    have hm : V % t1 < t1 := Nat.mod_lt _ (by omega)
    have hd2 : V / t1 ≤ V := Nat.div_le_self _ _
    generalize V / t1 = vd at *
    generalize V % t1 = vm at *
    have b6 : IntKind.u64.wrap ((vd : Int) * (t1 : Int)) = ((vd * t1 : Nat) : Int) := by
      rw [← Int.natCast_mul, wrap_nat, Nat.mod_eq_of_lt (by omega)]
    generalize vd * t1 = vp at *
    have b7 : IntKind.u64.wrap ((V : Int) - (vp : Int)) = (vm : Int) := by
      rw [IntKind.wrap_u64]; omega
    have Hqb2 := Lib.hid hqb
    have Hall2 := Lib.hid (And.intro hVb (And.intro hm hd2))
    clear hvb hVb hd hm hd2 hqb a1 a2 a3 a4 a5 a6 a7
    go_upto_block 2 with fail
    go_cut [18] (fun q wx => q = .int .u64 (q0 : Int) ∧ wx = wc)
    case first =>
      go_wp2_with fail
      go_loopg [18, 16] 9 (fun f q r wr => ∃ a b g : Nat, f = g + 1 ∧ q = .int .u64 (a : Int) ∧ r = .int .u64 (b : Int) ∧ wr = wc ∧ a < 18446744073709551616 ∧ b < 4294967296 ∧ 4294967296 ≤ b + g * t1 ∧ q0 = adj g t1 t0 a b)
      case atStart =>
        obtain ⟨a1, a2, a3, a4, a5, a6, a7⟩ := Hall.out
        exact ⟨vd, vm, 8, rfl, rfl, rfl, rfl, by have := Hall2.out; omega, by have := Hall2.out; omega, by omega, Hqb2.out⟩
      case round =>
        obtain ⟨a, b, g, hg, rfl, rfl, rfl, ha, hb, hf, hadj⟩ := hrel
        obtain ⟨a1, a2, a3, a4, a5, a6, a7⟩ := Hall.out
        obtain ⟨g', rfl⟩ : ∃ g', g = g' + 1 := ⟨g - 1, by
          rcases Nat.eq_zero_or_pos g with e | e
          · subst e; omega
          · omega⟩
        rw [Nat.succ_mul] at hf
        obtain ⟨m1, m2, d, f1, f2, f3, f4, hd, hz, hmore⟩ := adj_facts ha hb a4 hadj
        have Hc := Lib.hid (And.intro hg (And.intro ha (And.intro hb (And.intro hf (And.intro hadj hd)))))
        clear hg ha hb hf hadj hd a1 a2 a3 a4 a5 a6 a7
        by_cases c1 : 4294967296 ≤ a ∨ m1 < m2
        · obtain ⟨f5, hl, hm⟩ := hmore c1
          have Hl := Lib.hid hl
          have Hm := Lib.hid hm
          clear hl hm hz hmore
          have ha : (4294967296 : Int) ≤ (a : Int) ∨ ¬ (4294967296 : Int) ≤ (a : Int) ∧ m1 < m2 := by omega
          have hd : (4294967296 : Int) ≤ (d : Int) ∨ ¬ (4294967296 : Int) ≤ (d : Int) := by omega
          have hE0 : (0 : Int) ≤ ((a - 1 : Nat) : Int) := by omega
          generalize hA : (a : Int) = A at *
          generalize hB : (b : Int) = B at *
          generalize hD : (d : Int) = D at *
          generalize hE : ((a - 1 : Nat) : Int) = E at *
          have Hx := Lib.hid (And.intro hA (And.intro hB (And.intro hD (And.intro hE c1))))
          clear hA hB hD hE c1
          rcases ha with ha | ⟨ha, ha2⟩
          all_goals
            rcases hd with hd | hd
            · go_wp2
              obtain ⟨hA, hB, hD, hE, c1⟩ := Hx.out
              go_meet
              exact ⟨by rw [Hl.out (by omega), ← hE], rfl⟩
            · go_wp2
              obtain ⟨hA, hB, hD, hE, c1⟩ := Hx.out
              obtain ⟨hg, ha, hb, hf, hadj, hd⟩ := Hc.out
              go_roundg (g' + 1)
              case measure => omega
              case rel => exact ⟨a - 1, d, g', rfl, by rw [← hE], by rw [← hD], rfl, by omega, by omega, by omega, Hm.out (by omega)⟩
        · have ha : ¬ (4294967296 : Int) ≤ (a : Int) := by omega
          have hb : ¬ m1 < m2 := by omega
          have hz' := hz ⟨by omega, hb⟩
          have Hz := Lib.hid hz'
          clear hz hz' hmore
          generalize hA : (a : Int) = A at *
          generalize hB : (b : Int) = B at *
          generalize hD : (d : Int) = D at *
          have Hx := Lib.hid (And.intro hA (And.intro hB (And.intro hD c1)))
          clear hA hB hD c1
          go_wp2
          obtain ⟨hA, hB, hD, c1⟩ := Hx.out
          go_meet
          exact ⟨by rw [Hz.out, ← hA], rfl⟩
    case rest =>
      obtain ⟨rfl, rfl⟩ := hcut
      have d1 : ∃ x3 : Nat, IntKind.u64.wrap ((q1 : Int) * 4294967296) = (x3 : Int) ∧ IntKind.u64.wrap ((x3 : Int) + (q0 : Int)) = (Q : Int) := by
        refine ⟨q1 * 4294967296 % 18446744073709551616, ?_, ?_⟩
        · rw [← wrap_nat]; simp
        · rw [Hq1.out, ← Int.natCast_add, wrap_nat]; congr 1; omega
      obtain ⟨x3, d1, d2⟩ := d1
      go_wp2
      go_ret2
      exact ⟨⟨_, rfl⟩, rfl⟩

end Go.Proofs.YtfaeechidjpjbaaGreat

namespace Go.Proofs.YtfaeechidjpjbaaGreat

open Go.RowKit

set_option linter.unusedVariables false

theorem mul_any (x y : Nat) (w : World) (hx : x < 18446744073709551616) (hy : y < 18446744073709551616) :
    Calls Tryz.prog 196 #[.int .u64 (x : Int), .int .u64 (y : Int)] w fun e w' => e = .returned (.tuple #[.int .u64 ((x * y / 18446744073709551616 : Nat) : Int), .int .u64 ((x * y % 18446744073709551616 : Nat) : Int)]) ∧ w' = w :=
  Tryz.bits_Mul64 x y hx hy w

theorem wrap_mul (a b : Nat) : IntKind.u64.wrap ((a : Int) * (b : Int)) = ((a * b % 18446744073709551616 : Nat) : Int) := by
  rw [← wrap_nat]; simp

theorem wrap_add (a b : Nat) : IntKind.u64.wrap ((a : Int) + (b : Int)) = (((a + b) % 18446744073709551616 : Nat) : Int) := by
  rw [← wrap_nat]; simp

set_option maxHeartbeats 800000 in
theorem great_any (p x : Nat) (w : World) (hx : x < 18446744073709551616) (hp : p ≤ 311) :
    Calls Tryz.prog 193 #[.int .u64 (p : Int), .int .u64 (x : Int)] w fun e w' => e = .returned (.bool (big p x)) ∧ w' = w := by
  have hlow : low x < 18446744073709551616 := Nat.mod_lt _ (by decide)
  have h1 : Calls Tryz.prog 196 #[.int .u64 (x : Int), .int .u64 (x : Int)] w fun e w' => e = .returned (.tuple #[.int .u64 (high x : Int), .int .u64 (low x : Int)]) ∧ w' = w := mul_any x x w hx hx
  have h2 := mul_any (low x) x w hlow hx
  have hbig : big p x = decide (p * 4294967296 ≤ (high x * x % 18446744073709551616 + low x * x / 18446744073709551616) % 18446744073709551616) := rfl
  have e1 := wrap_mul (high x) x
  have e2 := wrap_add (high x * x % 18446744073709551616) (low x * x / 18446744073709551616)
  have e3 : IntKind.u64.wrap ((p : Int) * 4294967296) = ((p * 4294967296 : Nat) : Int) := by
    rw [show (4294967296 : Int) = ((4294967296 : Nat) : Int) from rfl, wrap_mul, Nat.mod_eq_of_lt (by omega)]
  generalize high x = hi at *
  generalize low x = lo at *
  obtain ⟨c1, hc1⟩ : ∃ c1, c1 = hi * x % 18446744073709551616 := ⟨_, rfl⟩
  obtain ⟨c2, hc2⟩ : ∃ c2, c2 = lo * x / 18446744073709551616 := ⟨_, rfl⟩
  obtain ⟨c3, hc3⟩ : ∃ c3, c3 = lo * x % 18446744073709551616 := ⟨_, rfl⟩
  obtain ⟨pp, hpp⟩ : ∃ pp, pp = p * 4294967296 := ⟨_, rfl⟩
  rw [← hc1] at e1 e2 hbig
  rw [← hc2] at e2 hbig h2
  rw [← hc3] at h2
  rw [← hpp] at e3 hbig
  obtain ⟨d, hd⟩ : ∃ d, d = (c1 + c2) % 18446744073709551616 := ⟨_, rfl⟩
  rw [← hd] at e2 hbig
  have H1 := Lib.hid h1
  have H2 := Lib.hid h2
  have Hb := Lib.hid hbig
  have hp0 : (0 : Int) ≤ (p : Int) := by omega
  have hp1 : (p : Int) ≤ 311 := by omega
  have e4 : (p : Int) * 4294967296 = (pp : Int) := by rw [hpp]; simp
  clear h1 h2 hbig hc1 hc2 hc3 hpp hd hx hp hlow
  rw [Hb.out]
  go_enter Tryz.func193, Tryz.ntmps193
  go_wp2_with fail
  with_reducible refine H1.out.mono ?_
  rintro e w' ⟨rfl, rfl⟩
  go_wp2_with fail
  with_reducible refine H2.out.mono ?_
  rintro e w' ⟨rfl, rfl⟩
  go_wp2
  go_ret
  exact ⟨rfl, rfl⟩

/-- Where a step goes through. -/
def fineB (p x : Nat) : Bool := decide (1 ≤ p ∧ p ≤ 311 ∧ 4294967296 ≤ x ∧ x ≤ 30064771072 ∧ p * 33554432 < dvs x ∧ dvs x < 18446744073709551616 ∧ lead (dvs x) ≤ 63 ∧ 2147483648 ≤ dvs x * 2 ^ lead (dvs x) % 18446744073709551616 / 4294967296)

theorem or_nat (a b : Nat) (ha : a < 18446744073709551616) (hb : b < 18446744073709551616) : bits .or .u64 (a : Int) (b : Int) = ((a ||| b : Nat) : Int) :=
  (bits_nat .u64 64 (by decide) (fun n h0 h1 => by rw [IntKind.wrap_u64]; omega) a b (by simpa using ha) (by simpa using hb)).2

def stp (p x : Nat) : Nat := (2 * x + quo (p * 33554432) (dvs x)) % 18446744073709551616 / 3

set_option maxHeartbeats 800000 in
theorem step_any (p x : Nat) (w : World) (hf : fineB p x = true) :
    Calls Tryz.prog 194 #[.int .u64 (p : Int), .int .u64 (x : Int)] w fun e w' => e = .returned (.int .u64 (stp p x : Int)) ∧ w' = w := by
  unfold fineB at hf
  rw [decide_eq_true_iff] at hf
  obtain ⟨hp0, hp1, hx0, hx1, hd1, hd2, hd3, hd4⟩ := hf
  have hlow : low x < 18446744073709551616 := Nat.mod_lt _ (by decide)
  have h1 : Calls Tryz.prog 196 #[.int .u64 (x : Int), .int .u64 (x : Int)] w fun e w' => e = .returned (.tuple #[.int .u64 (high x : Int), .int .u64 (low x : Int)]) ∧ w' = w := mul_any x x w (by omega) (by omega)
  have h2 := div64_any (p * 33554432) (dvs x) w (by omega) hd1 hd2 hd3 hd4
  have hst : stp p x = (2 * x + quo (p * 33554432) (dvs x)) % 18446744073709551616 / 3 := rfl
  have e3 : bits .or .u64 ((high x * 144115188075855872 % 18446744073709551616 : Nat) : Int) ((low x / 128 : Nat) : Int) = (dvs x : Int) := or_nat _ _ (Nat.mod_lt _ (by decide)) (by omega)
  have e1 : IntKind.u64.wrap ((high x : Int) * 144115188075855872) = ((high x * 144115188075855872 % 18446744073709551616 : Nat) : Int) := by
    rw [show (144115188075855872 : Int) = ((144115188075855872 : Nat) : Int) from rfl, wrap_mul]
  have e2 : (low x : Int) / 128 = ((low x / 128 : Nat) : Int) := by omega
  have e6 : IntKind.u64.wrap (2 * (x : Int)) = ((2 * x : Nat) : Int) := by
    rw [show (2 : Int) = ((2 : Nat) : Int) from rfl, wrap_mul, Nat.mod_eq_of_lt (by omega)]
  have e7 := wrap_add (2 * x) (quo (p * 33554432) (dvs x))
  have hq : ((2 * x + quo (p * 33554432) (dvs x)) % 18446744073709551616 : Nat) / 3 ≤ 18446744073709551615 := by omega
  have e5 : (p : Int) * 33554432 = ((p * 33554432 : Nat) : Int) := by simp
  have e9 : 2 * (x : Int) = ((2 * x : Nat) : Int) := by simp
  have e10 : IntKind.u64.wrap ((2 * x : Nat) : Int) = ((2 * x : Nat) : Int) := by rw [wrap_nat, Nat.mod_eq_of_lt (by omega)]
  generalize stp p x = st at *
  generalize quo (p * 33554432) (dvs x) = q at *
  generalize dvs x = y at *
  generalize high x = hi at *
  generalize low x = lo at *
  obtain ⟨c1, hc1⟩ : ∃ c1, c1 = hi * 144115188075855872 % 18446744073709551616 := ⟨_, rfl⟩
  obtain ⟨c2, hc2⟩ : ∃ c2, c2 = lo / 128 := ⟨_, rfl⟩
  obtain ⟨pp, hpp⟩ : ∃ pp, pp = p * 33554432 := ⟨_, rfl⟩
  obtain ⟨xx, hxx⟩ : ∃ xx, xx = 2 * x := ⟨_, rfl⟩
  rw [← hc1] at e1 e3
  rw [← hc2] at e2 e3
  rw [← hpp] at e5 h2
  rw [← hxx] at e6 e7 hst e9 e10
  obtain ⟨d, hd⟩ : ∃ d, d = (xx + q) % 18446744073709551616 := ⟨_, rfl⟩
  rw [← hd] at e7 hst
  have hd0 : (0 : Int) ≤ (d : Int) := by omega
  have hd9 : (d : Int) ≤ 18446744073709551615 := by omega
  have H1 := Lib.hid h1
  have H2 := Lib.hid h2
  have Hs := Lib.hid hst
  have ip0 : (0 : Int) ≤ (p : Int) := by omega
  have ip1 : (p : Int) ≤ 311 := by omega
  clear h1 h2 hst hc1 hc2 hpp hd hxx hx0 hx1 hp0 hp1 hlow hd1 hd2 hd3 hd4 hq
  generalize hDD : (d : Int) = D at *
  have HD := Lib.hid hDD
  clear hDD
  go_enter Tryz.func194, Tryz.ntmps194
  go_wp2_with fail
  with_reducible refine H1.out.mono ?_
  rintro e w' ⟨rfl, rfl⟩
  go_wp2_with fail
  with_reducible refine H2.out.mono ?_
  rintro e w' ⟨⟨r, rfl⟩, rfl⟩
  go_wp2
  go_ret
  refine ⟨?_, rfl⟩
  show Ending.returned (.int .u64 _) = _
  have hD := HD.out
  have e11 : IntKind.u64.wrap (D / 3) = (st : Int) := by
    rw [Hs.out, ← hD, show ((d : Int) / 3) = ((d / 3 : Nat) : Int) from by omega, wrap_nat, Nat.mod_eq_of_lt (by omega)]
  first | rw [e11] | (rw [Hs.out, ← hD]; congr 2) | trace_state

/-- Where all steps go through, and the last one is no more too great. -/
def okT : Nat → Nat → Nat → Bool
  | 0, p, x => !big p x
  | f + 1, p, x => if big p x then fineB p x && okT f p (nxt p x) else true

theorem nxt_stp (p x : Nat) : nxt p x = min (stp p x) (x - 1) := rfl

theorem run_min_u64 {P : Program} {ts : Array TypeId} {t : TypeId} {w : World} (a b : Nat) : (Builtin.min_ ts t #[.int .u64 (a : Int), .int .u64 (b : Int)]).run P w = .ok (.int .u64 ((min a b : Nat) : Int)) w := by
  rw [run_min_int2]
  congr 2
  split <;> omega

set_option maxHeartbeats 800000 in
theorem root_any (p x f : Nat) (w : World) (hok : okT f p x = true) (hp : p ≤ 311) (hx : x < 18446744073709551616) :
    Calls Tryz.prog 190 #[.int .u64 (p : Int), .int .u64 (x : Int)] w fun e w' => e = .returned (.int .u64 (newt f p x : Int)) ∧ w' = w := by
  have Hok := Lib.hid (And.intro hok (And.intro hp hx))
  clear hok hp hx
  go_enter Tryz.func190, Tryz.ntmps190
  go_wp2
  go_loopg [5] (f + 1) (fun k v wr => ∃ y g : Nat, k = g + 1 ∧ v = .int .u64 (y : Int) ∧ wr = w ∧ y < 18446744073709551616 ∧ okT g p y = true ∧ newt f p x = newt g p y)
  case atStart => exact ⟨x, f, rfl, rfl, rfl, Hok.out.2.2, Hok.out.1, rfl⟩
  case round =>
    obtain ⟨y, g, hg, rfl, rfl, hy, ho, hn⟩ := hrel
    have hgr := great_any p y wr hy Hok.out.2.1
    by_cases hb : big p y = true
    · obtain ⟨g', rfl⟩ : ∃ g', g = g' + 1 := by
        cases g with
        | zero => rw [okT, hb] at ho; cases ho
        | succ g' => exact ⟨g', rfl⟩
      rw [okT, if_pos hb, Bool.and_eq_true] at ho
      rw [newt, if_pos hb] at hn
      have hst := step_any p y wr ho.1
      have hf := ho.1
      unfold fineB at hf
      rw [decide_eq_true_iff] at hf
      have e1 : IntKind.u64.wrap ((y : Int) - 1) = ((y - 1 : Nat) : Int) := by
        rw [show (y : Int) - 1 = ((y - 1 : Nat) : Int) from by omega, wrap_nat, Nat.mod_eq_of_lt (by omega)]
      have hmin : ∀ (ts : Array TypeId) (t : TypeId) (w : World), (Builtin.min_ ts t #[.int .u64 (stp p y : Int), .int .u64 ((y - 1 : Nat) : Int)]).run Tryz.prog w = .ok (.int .u64 (nxt p y : Int)) w :=
        fun ts t w => run_min_u64 _ _
      have hlt : nxt p y < 18446744073709551616 := Nat.lt_of_le_of_lt (by rw [nxt_stp]; exact Nat.min_le_right _ _) (Nat.lt_of_le_of_lt (Nat.sub_le y 1) hy)
      rw [hb] at hgr
      have Hc := Lib.hid (And.intro hg (And.intro hy (And.intro ho (And.intro hn hlt))))
      have Hg := Lib.hid hgr
      have Hs := Lib.hid hst
      clear hgr hst hf hg hy ho hn hlt hb
      generalize hN : nxt p y = N at *
      generalize stp p y = S at *
      generalize hY : ((y - 1 : Nat) : Int) = Y at *
      have HN := Lib.hid hN
      clear hN hY
      go_wp2_with fail
      with_reducible refine Hg.out.mono ?_
      rintro e w' ⟨rfl, rfl⟩
      go_wp2_with fail
      with_reducible refine Hs.out.mono ?_
      rintro e w' ⟨rfl, rfl⟩
      go_wp2
      go_roundg (g' + 1)
      case measure => have := Hc.out.1; omega
      case rel => exact ⟨N, g', rfl, rfl, rfl, Hc.out.2.2.2.2, Hc.out.2.2.1.2, Hc.out.2.2.2.1⟩
    · have hb' : big p y = false := by simpa using hb
      have hz : newt g p y = y := by
        cases g with
        | zero => rfl
        | succ g' => rw [newt, if_neg hb]
      rw [hz] at hn
      rw [hb'] at hgr
      have Hn := Lib.hid hn
      have Hg := Lib.hid hgr
      clear hn hgr hg hy ho hb hb' hz
      go_wp2_with fail
      with_reducible refine Hg.out.mono ?_
      rintro e w' ⟨rfl, rfl⟩
      go_wp2
      go_ret
      exact ⟨by show Ending.returned (.int .u64 (y : Int)) = _; rw [Hn.out], rfl⟩

/-! ### All of them fit -/

def rtOk : Nat → Nat → Rt → Bool
  | 0, _, _ => true
  | f + 1, i, s => okT 16 (PP.getD (63 - i) 0) s.root && rtOk f (i + 1) ⟨newt 16 (PP.getD (63 - i) 0) s.root, s.out.set (63 - i) (newt 16 (PP.getD (63 - i) 0) s.root % 4294967296)⟩

theorem rtOk_at (f : Nat) : ∀ i, rtOk f i (rtS i) = true → ∀ j, i ≤ j → j < i + f → okT 16 (PP.getD (63 - j) 0) (rtS j).root = true := by
  induction f with
  | zero => intro i _ j h1 h2; omega
  | succ f ih =>
    intro i h j h1 h2
    rw [rtOk, Bool.and_eq_true] at h
    by_cases e : j = i
    · subst e; exact h.1
    · exact ih (i + 1) h.2 j (by omega) (by omega)

theorem rt_fits : rtOk 64 0 (rtS 0) = true := by decide +kernel

theorem rtS_ok {j : Nat} (h : j < 64) : okT 16 (PP.getD (63 - j) 0) (rtS j).root = true := by
  have hr := rt_fits
  have hx := rtOk_at 64 0
  generalize (64 : Nat) = f at hr hx h
  exact hx hr j (Nat.zero_le _) (by omega)

end Go.Proofs.YtfaeechidjpjbaaGreat

namespace Go.Proofs.YtfaeechidjpjbaaGreat

open Go.RowKit

set_option linter.unusedVariables false

theorem mask31 (n : Nat) (h1 : 1 ≤ n) (h2 : n ≤ 31) : bits .and .u64 ((18446744073709551616 - n : Nat) : Int) 31 = ((32 - n : Nat) : Int) := by
  have h := (bits_nat .u64 64 (by decide) (fun n h0 h1 => by rw [IntKind.wrap_u64]; omega) (18446744073709551616 - n) 31 (by omega) (by decide)).1
  rw [show (31 : Int) = ((31 : Nat) : Int) from rfl, h]
  congr 1
  rw [show (31 : Nat) = 2 ^ 5 - 1 from rfl, Nat.and_two_pow_sub_one_eq_mod]
  omega

set_option maxHeartbeats 400000 in
theorem rotl_any (x : UInt32) (n : Nat) (w : World) (h1 : 1 ≤ n) (h2 : n ≤ 31) :
    Calls Tryz.prog 195 #[.int .u32 (x.toNat : Int), .int .i64 (-(n : Int))] w fun e w' => e = .returned (cw (rotr x n)) ∧ w' = w := by
  have e1 : IntKind.u64.wrap (-(n : Int)) = ((18446744073709551616 - n : Nat) : Int) := by rw [IntKind.wrap_u64]; omega
  have e2 := mask31 n h1 h2
  obtain ⟨m, hm⟩ : ∃ m, m = 18446744073709551616 - n := ⟨_, rfl⟩
  obtain ⟨s, hs⟩ : ∃ s, s = 32 - n := ⟨_, rfl⟩
  rw [← hm] at e1 e2
  rw [← hs] at e2
  have hx := x.toNat_lt
  have a1 : (0 : Int) ≤ (n : Int) := by omega
  have a2 : (n : Int) ≤ 31 := by omega
  have a3 : (0 : Int) ≤ (s : Int) := by omega
  have a4 : (s : Int) ≤ 31 := by omega
  have a5 : IntKind.u64.wrap (32 - (s : Int)) = (n : Int) := by rw [IntKind.wrap_u64]; omega
  have a6 : 32 - (s : Int) = (n : Int) := by omega
  have Hs := Lib.hid hs
  clear hm hs
  go_enter Tryz.func195, Tryz.ntmps195
  go_wp2
  go_ret
  refine ⟨?_, rfl⟩
  have hf : cw (rotr x n) = .int .u32 (bits .or .u32 ((x.toNat : Int) * 2 ^ s % 4294967296) ((x.toNat : Int) / 2 ^ n)) := by
    rw [Hs.out, w_shr x n h2, w_shl x (32 - n) (by omega), w_or]
    unfold rotr cw
    rw [UInt32.or_comm]
  rw [hf]
  rfl

theorem rors_any (x : UInt32) (n : Nat) (w : World) (h1 : 1 ≤ n) (h2 : n ≤ 31) :
    Calls Tryz.prog 192 #[.int .u32 (x.toNat : Int), .int .i64 (n : Int)] w fun e w' => e = .returned (.int .u32 ((rotr x n).toNat : Int)) ∧ w' = w := by
  have a1 : (0 : Int) ≤ (n : Int) := by omega
  have a2 : (n : Int) ≤ 31 := by omega
  have H := Lib.hid (fun w => rotl_any x n w h1 h2)
  go_enter Tryz.func192, Tryz.ntmps192
  go_wp2_with fail
  refine (H.out _).mono ?_
  rintro e w' ⟨rfl, rfl⟩
  go_wp2
  go_ret
  exact ⟨rfl, rfl⟩

theorem rors_int (x : UInt32) (n : Int) (w : World) (h1 : 1 ≤ n) (h2 : n ≤ 31) :
    Calls Tryz.prog 192 #[.int .u32 (x.toNat : Int), .int .i64 n] w fun e w' => e = .returned (.int .u32 ((rotr x n.toNat).toNat : Int)) ∧ w' = w := by
  obtain ⟨k, rfl⟩ := Int.eq_ofNat_of_zero_le (a := n) (by omega)
  rw [Int.toNat_natCast]
  exact rors_any x k w (by omega) (by omega)

theorem rors_quiet (x : UInt32) (n : Int) (w : World) (h1 : 1 ≤ n) (h2 : n ≤ 31) :
    Calls Tryz.prog 192 #[.int .u32 (x.toNat : Int), .int .i64 n] w fun e w' => e = .returned (.int .u32 ((rotr x n.toNat).toNat : Int)) ∧ ∃ q, w' = w.drewN q :=
  (rors_int x n w h1 h2).mono fun e w' ⟨h, hw⟩ => ⟨h, 0, hw⟩

end Go.Proofs.YtfaeechidjpjbaaGreat
