/-
  Laid together for a hand-in: Hd16, Byteq, BookA, Hex, Note, InkOf, Offs9, TakeH, Local, Pure3.
-/
import Derived.Test.YtfaeechidjpjbaaGreatZ11
import Derived.Test.YtfaeechidjpjbaaGreatZ01
import Derived.Test.YtfaeechidjpjbaaGreatZ08
import Derived.Laws.BytesArg
import Derived.Outline
import Derived.Laws.LoneSync
import Derived.Carry
import Derived.Stop.BytesEq
import Derived.Lib.SlBytesConst
import Derived.Deep.RegionHeld3
import Derived.Deep.RegionWith
import Derived.Deep.AppendLies
import Derived.Deep.DeepCutAuto

namespace Go.Proofs.YtfaeechidjpjbaaGreat
open Go.RowKit
set_option linter.unusedVariables false
set_option linter.unusedSimpArgs false
theorem isch_any (w : World) {n : Int} (h : 1 ≤ n ∧ n ≤ 2) : Calls Tryz.prog 54 #[.int .i64 n] w fun e w' => e = .returned (.bool true) ∧ w' = w := by
  have h1 : decide (n ≥ 1) = true := decide_eq_true h.1
  have h2 : decide (n ≤ 2) = true := decide_eq_true h.2
  go_enter Tryz.func54, Tryz.ntmps54
  go_wp2
  go_ret
  exact ⟨rfl, rfl⟩
section
variable {w w' : World} {U S : Nat → Prop} {g : Nat} {bk : Value} {v : Va} {cs : List Value}
set_option maxRecDepth 100000 in
set_option maxHeartbeats 3200000 in
theorem heard_in (h : VaIn w U g bk v cs) {x : Wl} {Dx : Option Addr} {ndx cdx : Nat} {Nx : Option Addr} {nnx cnx : Nat} (hx : ArgW w x Dx ndx cdx Nx nnx cnx) (hm : May x) (hgr : x.gr = v.gr) (hk : x.kd ≠ 5) :
    Calls Tryz.prog 29 #[.pointer (some ⟨g, 0, none⟩), .agg #[.int .i64 x.cl, .int .i64 x.sp, .int .i64 x.gr, .int .i64 x.ep, .int .i64 x.kd, .int .i64 x.bl, .slice Dx ndx cdx, .int .i64 x.od, .int .i64 x.nw, .slice Nx nnx cnx]] w fun e w' => ∃ u, e = .returned (.tuple #[u, .bool (agS v x).isSome]) ∧ AnsV w ((agS v x).getD an0) u w' := by
  have hbx : Below w.heap.size w (w.alloc (.cells #[.int .i64 x.cl, .int .i64 x.sp, .int .i64 x.gr, .int .i64 x.ep, .int .i64 x.kd, .int .i64 x.bl, .slice Dx ndx cdx, .int .i64 x.od, .int .i64 x.nw, .slice Nx nnx cnx] 45)) := (Below.refl _ _).alloc (Nat.le_refl _) _
  have X1 : Blk ((w.alloc (.cells #[.int .i64 x.cl, .int .i64 x.sp, .int .i64 x.gr, .int .i64 x.ep, .int .i64 x.kd, .int .i64 x.bl, .slice Dx ndx cdx, .int .i64 x.od, .int .i64 x.nw, .slice Nx nnx cnx] 45)).alloc (.cells #[.int .i64 0, .slice none 0 0, .int .i64 0, .slice none 0 0] 48)) w.heap.size 45 [.int .i64 x.cl, .int .i64 x.sp, .int .i64 x.gr, .int .i64 x.ep, .int .i64 x.kd, .int .i64 x.bl, .slice Dx ndx cdx, .int .i64 x.od, .int .i64 x.nw, .slice Nx nnx cnx] := Blk.old (Blk.new rfl rfl) _
  have A1 : Blk ((w.alloc (.cells #[.int .i64 x.cl, .int .i64 x.sp, .int .i64 x.gr, .int .i64 x.ep, .int .i64 x.kd, .int .i64 x.bl, .slice Dx ndx cdx, .int .i64 x.od, .int .i64 x.nw, .slice Nx nnx cnx] 45)).alloc (.cells #[.int .i64 0, .slice none 0 0, .int .i64 0, .slice none 0 0] 48)) (w.heap.size + 1) 48 [.int .i64 0, .slice none 0 0, .int .i64 0, .slice none 0 0] := Blk.new rfl (by simp)
  have hb2 : Below w.heap.size w ((w.alloc (.cells #[.int .i64 x.cl, .int .i64 x.sp, .int .i64 x.gr, .int .i64 x.ep, .int .i64 x.kd, .int .i64 x.bl, .slice Dx ndx cdx, .int .i64 x.od, .int .i64 x.nw, .slice Nx nnx cnx] 45)).alloc (.cells #[.int .i64 0, .slice none 0 0, .int .i64 0, .slice none 0 0] 48)) := hbx.alloc (by simp) _
  have h1 := h.below hb2
  have hsz : w.heap.size + 1 < ((w.alloc (.cells #[.int .i64 x.cl, .int .i64 x.sp, .int .i64 x.gr, .int .i64 x.ep, .int .i64 x.kd, .int .i64 x.bl, .slice Dx ndx cdx, .int .i64 x.od, .int .i64 x.nw, .slice Nx nnx cnx] 45)).alloc (.cells #[.int .i64 0, .slice none 0 0, .int .i64 0, .slice none 0 0] 48)).heap.size := by simp
  have Hn := Lib.hid (vnone_in h1)
  have hlk : lookB v x = true := by unfold lookB; simp [hm, hgr]
  have Hlk := looks_in h1 (hx.after hb2) hm
  rw [hlk] at Hlk
  have Hlk := Lib.hid Hlk
  have H := Lib.hid (And.intro hb2 (And.intro X1 (And.intro A1 (And.intro h1 hsz))))
  have Hx := Lib.hid (And.intro hx hm)
  have H0 := Lib.hid h
  have Hgr := Lib.hid hgr
  clear h h1 X1 A1 hb2 hbx hx hm hsz hgr
  have hk' : (x.kd == 5) = false := by simp [hk]
  have hcl : 31 ≤ x.cl ∧ x.cl ≤ 34 := by have := may_client Hx.out.2 hk (by have := Hgr.out; have := H0.out.ok.gr; omega); exact this.1
  have Hcl := Lib.hid hcl
  clear hlk hk hcl
  generalize hag : agS v x = r
  have Hag := Lib.hid hag
  clear hag
  go_enter Tryz.func29, Tryz.ntmps29
  go_upto_region 1 with fail
  go_upto_region 3 with first
    | (go_at_call 55; refine Hn.out.mono ?_; rintro e w' ⟨rfl, hww⟩; have hww2 := hww.symm; subst hww2; clear hww)
    | (go_at_call 56; refine Hlk.out.mono ?_; rintro e w1 ⟨rfl, hb⟩; have X9 := H.out.2.1.below hb (Nat.lt_of_succ_lt H.out.2.2.2.2); have q0 := X9.cell (i := 0) rfl; have q1 := X9.cell (i := 1) rfl; have q2 := X9.cell (i := 2) rfl; have q3 := X9.cell (i := 3) rfl; have q4 := X9.cell (i := 4) rfl; have q5 := X9.cell (i := 5) rfl; have q6 := X9.cell (i := 6) rfl; have q7 := X9.cell (i := 7) rfl; have q8 := X9.cell (i := 8) rfl; have q9 := X9.cell (i := 9) rfl; have hb := Lib.hid hb; clear X9)
  have hbw := H.out.1.trans (hb.out.mono H.out.1.size)
  have hs1 : w.heap.size + 1 < w1.heap.size := Nat.lt_of_lt_of_le H.out.2.2.2.2 hb.out.size
  have A9 := H.out.2.2.1.below hb.out H.out.2.2.2.2
  have V9 := H.out.2.2.2.1.below hb.out
  have He := again_in V9 (Hx.out.1.after hbw) Hcl.out
  rw [Hag.out] at He
  have He := Lib.hid He
  have HB := Lib.hid (And.intro hbw (And.intro hs1 A9))
  clear hbw hs1 A9 V9
  go_wp2_with (go_at_call 58; go_loud (refine He.out.mono ?_; rintro e w2 ⟨u, rfl, hD⟩; obtain ⟨d, rfl, D1, D2⟩ := hD; obtain ⟨Ad, cd2, hde, _⟩ := D1.form; subst hde; have Z := HB.out.2.2.below D2 HB.out.2.1; have kz0 := Z.cell (i := 0) rfl; have kf0 := Z.free 0; have kz1 := Z.cell (i := 1) rfl; have kf1 := Z.free 1; have kz2 := Z.cell (i := 2) rfl; have kf2 := Z.free 2; have kz3 := Z.cell (i := 3) rfl; have kf3 := Z.free 3; have HD := Lib.hid (And.intro Z (And.intro D1 D2)); clear Z D1 D2))
  refine bodyPost_ret (res_at rfl (HD.out.1.set4 _ _ _ _) rfl) rfl ?_
  obtain ⟨_, D1, D2⟩ := HD.out
  exact ⟨_, rfl, _, rfl, mine_far D1 HB.out.1.size (fun i hi => heap_set4 (by have := HB.out.2.1; omega) _ _ _ _), below_set4 (HB.out.1.trans (D2.mono HB.out.1.size)) (by omega) _ _ _ _⟩
end
end Go.Proofs.YtfaeechidjpjbaaGreat

namespace Go.Proofs.YtfaeechidjpjbaaGreat

open Go.RowKit

set_option linter.unusedVariables false

def strOf (l : List UInt8) : ByteArray := ⟨l.toArray⟩

theorem strOf_eq (l m : List UInt8) : ((strOf l).toList == (strOf m).toList) = (l == m) := by
  rw [ByteArray.toList_eq, ByteArray.toList_eq]
  rfl

theorem back_bytes : ∀ l : List UInt8, (l.map fun b => (b.toNat : Int)).map (fun n => UInt8.ofNat n.toNat) = l
  | [] => rfl
  | x :: l => by rw [List.map_cons, List.map_cons, back_bytes l]; simp

theorem strOf_nums (l : List UInt8) : strOfNums (l.map fun b => (b.toNat : Int)) = strOf l := by
  unfold strOfNums strOf
  rw [back_bytes]

theorem conv_bytes (A : Option Addr) (c n : Nat) (l : List UInt8) (w : World) (h : Bs w A l) (hn : l.length = n) :
    (convert 22 9 (.slice A n c)).run Tryz.prog w = .ok (.string (strOf l)) w := by
  subst hn
  cases l with
  | nil =>
    rw [run_convert_bytes_string w 22 9 5 _ _ c Tryz.underlying22 Tryz.underlying5 Tryz.underlying9]
    cases A <;> simp [Conv.bytesToString, loadCells]
    all_goals rfl
  | cons x t =>
    obtain ⟨b, o, rfl, _, hc⟩ := h.at_ (i := 0) (by simp)
    have := run_convert_bytes_arg (P := Tryz.prog) w 22 5 Tryz.underlying22 Tryz.underlying5 b o (x :: t).length c ((x :: t).map fun b => (b.toNat : Int)) (by simp)
      (fun i hi => by rw [hc i hi]; congr 2; rw [List.getD_eq_getElem?_getD, List.getElem?_map, List.getElem?_eq_getElem hi]; rfl) 9 Tryz.underlying9
    rw [this, strOf_nums]

set_option maxHeartbeats 400000 in
theorem bequal_any (A A' : Option Addr) (c c' n m : Nat) (xs ys : List UInt8) (w : World) (hA : Bs w A xs) (hB : Bs w A' ys) (hn : xs.length = n) (hm : ys.length = m) :
    Calls Tryz.prog 158 #[.slice A n c, .slice A' m c'] w fun e w' => e = .returned (.bool (xs == ys)) ∧ w' = w := by
  have h1 := conv_bytes A c n xs w hA hn
  have h2 := conv_bytes A' c' m ys w hB hm
  have H := Lib.hid (strOf_eq xs ys)
  clear hA hB hn hm
  generalize strOf xs = s at *
  generalize strOf ys = t at *
  go_enter Tryz.func158, Tryz.ntmps158
  go_wp2
  go_ret
  exact ⟨congrArg (fun b => Ending.returned (.bool b)) H.out, rfl⟩

end Go.Proofs.YtfaeechidjpjbaaGreat

namespace Go.Proofs.YtfaeechidjpjbaaGreat

open Go.RowKit Go.Maps

set_option linter.unusedVariables false

def bcells (m : Nat) (many : Nat) (c : Bool) (n : Nat) : List Value := [.map (some m), .int .i64 (many : Int), .bool c, .int .i64 (n : Int)]

/-- A book in memory: the inputs in order, whether there is a clash, how often it was asked; 'S': its blocks. -/
def BookM (w : World) (S : Nat → Prop) (g m : Nat) (L : List (List UInt8)) (c : Bool) (n : Nat) : Prop :=
  Blk w g 93 (bcells m L.length c n) ∧ S g ∧ Store w S m L

theorem eqlSomeMap (bm : Nat) (w : World) : (binOp .eql 86 (.map (some bm)) (.map none)).run Tryz.prog w = .ok (.bool false) w := by kernel_rfl

set_option maxRecDepth 100000 in
theorem bnone_any (g m many n : Nat) (c : Bool) (w : World) (h : Blk w g 93 (bcells m many c n)) : Calls Tryz.prog 65 #[.pointer (some ⟨g, 0, none⟩)] w fun e w' => e = .returned (.bool false) ∧ w' = w := by
  have c0 : w.cell? ⟨g, 0, none⟩ = some (.map (some m)) := h.cell rfl
  clear h
  have heq := eqlSomeMap
  go_enter Tryz.func65, Tryz.ntmps65
  go_wp2
  go_ret
  exact ⟨rfl, rfl⟩

set_option maxRecDepth 100000 in
theorem badd_any (g : Nat) (n : Nat) (hn : n < 1000000000) (w : World) (h : w.cell? ⟨g, 3, none⟩ = some (.int .i64 (n : Int))) (hz : w.frozen? ⟨g, 3, none⟩ = false) : Calls Tryz.prog 146 #[.pointer (some ⟨g, 3, none⟩), .int .i64 1] w fun e w' => e = .returned (.int .i64 ((n + 1 : Nat) : Int)) ∧ w' = w.setCell ⟨g, 3, none⟩ (.int .i64 ((n + 1 : Nat) : Int)) := by
  have hadd := run_call_add (P := Tryz.prog) Tryz.func159 (by kernel_rfl) (by kernel_rfl) (by kernel_rfl) .i64 (by kernel_rfl) (y := 1) (s := ((n + 1 : Nat) : Int)) h hz (by have := IntWalk.i64_in ((n : Int) + 1) (by omega); unfold Op.intArith; simp [this])
  go_enter Tryz.func146, Tryz.ntmps146
  go_wp2
  go_ret
  exact ⟨rfl, rfl⟩

theorem bclash_any (g m many n : Nat) (c : Bool) (w : World) (h : Blk w g 93 (bcells m many c n)) : Calls Tryz.prog 38 #[.pointer (some ⟨g, 0, none⟩)] w fun e w' => e = .returned (.bool c) ∧ w' = w := by
  have c1 : w.cell? ⟨g, 2, none⟩ = some (.bool c) := h.cell rfl
  have hnot : ∀ (x : Bool) (w : World), (Op.unary .not (.bool x)).run Tryz.prog w = .ok (.bool (!x)) w := fun _ _ => rfl
  have Hno := Lib.hid (bnone_any g m many n c w h)
  clear h
  go_enter Tryz.func38, Tryz.ntmps38
  go_wp2_with (go_at_call 65; refine Hno.out.mono ?_; rintro e w' ⟨rfl, rfl⟩)
  go_ret
  exact ⟨rfl, rfl⟩

theorem Store.more {S S' : Nat → Prop} {w : World} {m : Nat} {L : List (List UInt8)} (h : Store w S m L) (hS : ∀ i, S i → S' i) (hb : ∀ i, S' i → i < w.heap.size) : Store w S' m L := by
  obtain ⟨h1, h2, D, h3, h4⟩ := h
  refine ⟨hS m h1, hb, D, h3, fun d kl hd hkl => ?_⟩
  obtain ⟨v, e, hv⟩ := h4 d kl hd hkl
  exact ⟨v, e, hv.stay hS (fun _ _ _ _ => rfl) (fun _ _ _ _ _ => rfl)⟩

theorem bnew_any (w : World) : Calls Tryz.prog 12 #[] w fun e w' => ∃ S g m, e = .returned (.pointer (some ⟨g, 0, none⟩)) ∧ (∀ i, S i → w.heap.size ≤ i) ∧ BookM w' S g m [] false 0 ∧ Below w.heap.size w w' := by
  have hmm := @run_makeMap Tryz.prog
  go_enter Tryz.func12, Tryz.ntmps12
  go_wp2
  go_ret
  have hst := new_store w
  have hs2 : Store ((w.alloc (.map #[] 0)).alloc (.cells (bcells w.heap.size 0 false 0).toArray 93)) (fun i => i = w.heap.size ∨ i = w.heap.size + 1) w.heap.size [] :=
    (Store.stay hst (by simp) fun i o hi ho _ => (heap_alloc_old _ _ (by have hi' : i = w.heap.size := hi; subst hi'; simp)).trans ho).more (fun i hi => .inl hi) fun i hi => by simp; omega
  have hblk : Blk ((w.alloc (.map #[] 0)).alloc (.cells (bcells w.heap.size 0 false 0).toArray 93)) (w.heap.size + 1) 93 (bcells w.heap.size 0 false 0) := Blk.new rfl (by simp)
  exact ⟨fun i => i = w.heap.size ∨ i = w.heap.size + 1, w.heap.size + 1, w.heap.size, rfl, fun i hi => by omega, ⟨hblk, .inr rfl, hs2⟩,
    ((Below.refl _ _).alloc (Nat.le_refl _) _).alloc (by simp) _⟩

end Go.Proofs.YtfaeechidjpjbaaGreat

namespace Go.Proofs.YtfaeechidjpjbaaGreat

open Go.RowKit

set_option linter.unusedVariables false

theorem eq_digests (w : World) (l m : List UInt8) (hl : l.length = 32) (hm : m.length = 32) :
    (Op.equalIn 10000 59 (.agg (cbs l).toArray) (.agg (cbs m).toArray)).run Tryz.prog w = .ok (l == m) w :=
  run_equalIn_bytes w 9998 59 5 32 Tryz.underlying59 Tryz.underlying5 (fun w => by kernel_rfl) l m hl hm

theorem dlen (l : List UInt8) : (digest l).length = 32 := by rw [digest_last]; rfl

theorem eq_same (D : List Value) (l : List UInt8) (h : D = cbs (digest l)) (w : World) : (Op.equalIn 10000 59 (.agg D.toArray) (.agg D.toArray)).run Tryz.prog w = .ok true w := by
  subst h
  rw [eq_digests w _ _ (dlen l) (dlen l)]
  simp

def nib (c : UInt8) : UInt8 := if 65 ≤ c.toNat then c - 65 + 10 else c - 48

def hx (l : List UInt8) : Nat → List UInt8
  | 0 => List.replicate 32 0
  | k + 1 => (hx l k).set (k / 2) ((hx l k).getD (k / 2) 0 * 16 + nib (l.getD k 0))

theorem hx_len (l : List UInt8) (k : Nat) : (hx l k).length = 32 := by
  induction k with
  | zero => exact List.length_replicate
  | succ k ih => rw [hx, List.length_set]; exact ih

theorem cb_nib1 (o c : UInt8) (h : 65 ≤ c.toNat) : Value.int .u8 (((o.toNat : Int) * 16 + ((c.toNat : Int) - 65 + 10)) % 256) = cb (o * 16 + nib c) := by
  have h1 := o.toNat_lt
  have h2 := c.toNat_lt
  have e16 : (16 : UInt8).toNat = 16 := rfl
  have e65 : (65 : UInt8).toNat = 65 := rfl
  have e10 : (10 : UInt8).toNat = 10 := rfl
  unfold cb nib
  rw [if_pos h, UInt8.toNat_add, UInt8.toNat_mul, UInt8.toNat_add, UInt8.toNat_sub, e16, e65, e10]
  congr 1
  omega

theorem cb_nib2 (o c : UInt8) (h : ¬ 65 ≤ c.toNat) : Value.int .u8 (((o.toNat : Int) * 16 + ((c.toNat : Int) - 48)) % 256) = cb (o * 16 + nib c) := by
  have h1 := o.toNat_lt
  have h2 := c.toNat_lt
  have e16 : (16 : UInt8).toNat = 16 := rfl
  have e48 : (48 : UInt8).toNat = 48 := rfl
  unfold cb nib
  rw [if_neg h, UInt8.toNat_add, UInt8.toNat_mul, UInt8.toNat_sub, e16, e48]
  congr 1
  omega

def abcS : ByteArray := { data := #[66, 65, 55, 56, 49, 54, 66, 70, 56, 70, 48, 49, 67, 70, 69, 65, 52, 49, 52, 49, 52, 48, 68, 69, 53, 68, 65, 69, 50, 50, 50, 51, 66, 48, 48, 51, 54, 49, 65, 51, 57, 54, 49, 55, 55, 65, 57, 67, 66, 52, 49, 48, 70, 70, 54, 49, 70, 50, 48, 48, 49, 53, 65, 68] }

theorem abc_hex : hx abcS.data.toList 64 = digest [97, 98, 99] := by
  rw [dig_abc]; decide +kernel

theorem Bs.made (w : World) (t : TypeId) (vs : Array Value) (fr : Nat × Nat) (l : List UInt8) (h : vs.toList = cbs l) : Bs (w.alloc (.cells vs t fr)) (some ⟨w.heap.size, 0, none⟩) l := by
  refine ⟨by rw [cbs_length]; simp, fun _ => ⟨w.heap.size, 0, rfl, by simp, fun j u hu => ?_⟩⟩
  rw [Nat.zero_add, cell_of_row _ _ j vs t fr (heap_alloc_new w _)]
  rw [← h] at hu
  simpa using hu

end Go.Proofs.YtfaeechidjpjbaaGreat

namespace Go.Proofs.YtfaeechidjpjbaaGreat

open Go.RowKit Go.Maps

set_option linter.unusedVariables false

/-- What stands while a digest's inputs are looked through. -/
def Half (w : World) (S : Nat → Prop) (g m : Nat) (L : List (List UInt8)) (c : Bool) (k : Nat) (v : Value) (A : Option Addr) (x : List UInt8) (D : List Value) (wr : World) : Prop :=
  Blk wr g 93 (bcells m L.length c k) ∧ Store wr S m L ∧ Keeps wr S v (grp (digest x) L) ∧ Bs wr A x ∧ Blk wr w.heap.size 59 D ∧ Below w.heap.size w wr

theorem Keeps.below {S : Nat → Prop} {w w' : World} {v : Value} {xs : List (List UInt8)} (h : Keeps w S v xs) (hS : ∀ i, S i → i < w.heap.size) (hb : Below w.heap.size w w') : Keeps w' S v xs :=
  h.stay (fun _ hi => hi) (fun i cs hi _ => hb.block i (hS i hi)) (fun b cs _ hi _ => hb.block b (hS b hi))

theorem Store.below {S : Nat → Prop} {w w' : World} {m : Nat} {L : List (List UInt8)} (h : Store w S m L) (hb : Below w.heap.size w w') : Store w' S m L :=
  h.stay hb.size fun i o hi ho _ => (hb.block i (h.2.1 i hi)).trans ho

/-- The book's inputs, and whether there is a clash, once x is noted. -/
def noteL (L : List (List UInt8)) (c : Bool) (x : List UInt8) : List (List UInt8) × Bool :=
  if x ∈ L then (L, c) else (L ++ [x], c || decide (grp (digest x) L ≠ []) || digest x == List.replicate 32 0)

theorem mem_grp {L : List (List UInt8)} {x : List UInt8} : x ∈ grp (digest x) L ↔ x ∈ L := by
  unfold grp; rw [List.mem_filter]; simp

def Grown (S : Nat → Prop) (w w' : World) (i : Nat) : Prop := S i ∨ w.heap.size ≤ i ∧ i < w'.heap.size

theorem noted_old {w wr : World} {S : Nat → Prop} {g m : Nat} {L : List (List UInt8)} {c : Bool} {k : Nat} {v : Value} {A : Option Addr} {x : List UInt8} {D : List Value}
    (h : Half w S g m L c k v A x D wr) (hS : S g) (hb : ∀ i, S i → i < w.heap.size) (hx : x ∈ L) : BookM wr (Grown S w wr) g m (noteL L c x).1 (noteL L c x).2 k ∧ Out S w wr := by
  obtain ⟨h1, h2, h3, h4, h5, h6⟩ := h
  unfold noteL
  rw [if_pos hx]
  exact ⟨⟨h1, .inl hS, h2.more (fun i hi => .inl hi) (fun i hi => by rcases hi with hi | hi; exact h2.2.1 i hi; exact hi.2)⟩, Out.ofBelow S h6⟩

/-- Behind the store in the map. -/
def After (w W : World) (S : Nat → Prop) (g m : Nat) (L : List (List UInt8)) (c : Bool) (k : Nat) (x : List UInt8) (D : List Value) (w3 : World) : Prop :=
  Blk w3 g 93 (bcells m L.length c k) ∧ Blk w3 w.heap.size 59 D ∧ Store w3 (Grown S W w3) m (L ++ [x]) ∧ Out S W w3

theorem note_put {w W wa : World} {S : Nat → Prop} {g m : Nat} {L : List (List UInt8)} {c : Bool} {k : Nat} {v : Value} {A : Option Addr} {x : List UInt8} {D : List Value} (hL : L.length < 1000000)
    (h : Half w S g m L c k v A x D W) (hS : S g) (hb : Below W.heap.size W wa) (hd : Value) (hhd : Mine wa W.heap.size 5 hd x) (hDv : cbs (digest x) = D) :
    ∃ cs, wa.ownsRow 0 22 1 v (grp (digest x) L).length cs ∧ ∀ v' w2, w2.ownsRow 0 22 1 v' ((grp (digest x) L).length + 1) (cs ++ [hd]) → wa.grownBy w2 v.ownBlock → (v'.ownBlock = v.ownBlock ∨ v'.ownBlock = some wa.heap.size) →
      Blk w2 g 93 (bcells m L.length c k) ∧ Blk w2 w.heap.size 59 D ∧
      ∃ w3, (Instr.mapUpdate 86 (.map (some m)) (.agg D.toArray) v').run Tryz.prog w2 = .ok () w3 ∧ After w W S g m L c k x D w3 := by
  obtain ⟨h1, h2, h3, h4, h5, h6⟩ := h
  have h3' := h3
  obtain ⟨cs, k1, k2, _⟩ := h3
  have hcsa : wa.ownsRow 0 22 1 v (grp (digest x) L).length cs := row_stay k1 fun b c hb' hc => hb.block b (by
    rcases Nat.lt_or_ge b W.heap.size with h | h
    · exact h
    · rw [Array.getElem?_eq_none h] at hc; cases hc)
  refine ⟨cs, hcsa, fun v' w2 hrow hgr hloc => ?_⟩
  obtain ⟨w3, r1, r2, r3⟩ := h2.put hL x v cs k1 h3' hb hd hhd v' hgr hrow hloc
  rw [hDv] at r1
  have far : ∀ {b t l}, Blk W b t l → t ≠ 22 → Blk w2 b t l := fun {b t l} hbk ht => by
    refine (hgr.block b (Nat.lt_of_lt_of_le hbk.lt hb.size) fun e => ?_).trans ((hb.block b hbk.lt).trans hbk)
    obtain ⟨c', hc'⟩ := row_block k1 e.symm
    unfold Blk at hbk
    rw [hc'] at hbk
    injection hbk with e1
    injection e1 with _ e1
    exact ht e1.symm
  have g2 := far h1 (by decide)
  have d2 := far h5 (by decide)
  obtain ⟨es, clock, hm⟩ : ∃ es clock, W.heap[m]? = some (.map es clock) := by obtain ⟨_, _, D', h, _⟩ := h2; exact map_block h
  have g3 : Blk w3 g 93 (bcells m L.length c k) := (r2.block g g2.lt fun e => by
    injection e with e
    subst e
    unfold Blk at h1; rw [hm] at h1; cases h1).trans g2
  have d3 : Blk w3 w.heap.size 59 D := (r2.block _ d2.lt fun e => by
    injection e with e
    rw [← e] at hm
    unfold Blk at h5; rw [hm] at h5; cases h5).trans d2
  refine ⟨g2, d2, w3, r1, g3, d3, r3, ?_⟩
  exact (((Out.refl S W).then_below hb).then_grown hgr fun i hi _ => k2 i hi).then_grown r2 fun i hi _ => by injection hi with hi; subst hi; exact h2.1

theorem noted_new {w W w3 w4 : World} {S : Nat → Prop} {g m : Nat} {L : List (List UInt8)} {c : Bool} {k : Nat} {x : List UInt8} {D : List Value} (h : After w W S g m L c k x D w3) (hW : Below w.heap.size w W) (hx : x ∉ L) (hS : S g)
    (h4 : But g w3 w4) (hs : w4.heap.size = w3.heap.size) (hblk : Blk w4 g 93 (bcells m (L.length + 1) (c || decide (grp (digest x) L ≠ []) || digest x == List.replicate 32 0) k)) :
    BookM w4 (Grown S w w4) g m (noteL L c x).1 (noteL L c x).2 k ∧ Out S w w4 := by
  obtain ⟨h1, h2, h3, h5⟩ := h
  unfold noteL
  rw [if_neg hx]
  have hst4 : Store w4 (Grown S W w3) m (L ++ [x]) := h3.stay (by omega) fun i o hi ho hb => by
    refine (h4.block i (h3.2.1 i hi) fun e => ?_).trans ho
    injection e with e
    subst e
    exact hb _ _ (Option.some.inj (ho.symm.trans h1))
  refine ⟨⟨by rw [List.length_append]; exact hblk, .inl hS, hst4.more (fun i hi => ?_) (fun i hi => ?_)⟩, ?_⟩
  · rcases hi with hi | hi
    · exact .inl hi
    · exact .inr ⟨Nat.le_trans hW.size hi.1, by omega⟩
  · rcases hi with hi | hi
    · exact hst4.2.1 i (.inl hi)
    · exact hi.2
  · exact (((Out.refl S w).then_below hW).trans h5 fun _ _ e => e).then_grown h4 fun i hi _ => by injection hi with hi; subst hi; exact hS

theorem load_row_g {P : Program} {ops : Array Oper} {rest : List Oper} {o : Oper} {a : Act} {w : World} {Q : Exit → Act → World → Prop} (hw : Region.wanted o (yielded ops a.tmps) = true) (ty : TypeId) (x : Operand) (ho : o.op = .load ty x)
    (g : Nat) (hx : a.eval x = .pointer (some ⟨g, 0, none⟩)) (t : TypeId) (cs : Array Value) (fr : Nat × Nat) (d : TypeDesc) (hg : w.heap[g]? = some (.cells cs t fr))
    (hu : P.underlying ty = some d) (hd : (match d with | .struct _ | .array _ _ => true | _ => false) = true) (hi : (P.info? ty).map (·.size) = some cs.size)
    (h : wpList P ops Q rest (a.put o.dst (.agg cs)) w) : wpList P ops Q (o :: rest) a w :=
  wpList_step fun K hK => by rw [if_pos hw]; exact wp_load_row ty x ho g hx t cs fr d hg hu hd hi (hK _ _ h)

theorem eq_zero32 (D : List Value) (l : List UInt8) (h : cbs (digest l) = D) (w : World) :
    (Op.equalIn 10000 59 (.agg D.toArray) (.agg #[Value.int .u8 0, Value.int .u8 0, Value.int .u8 0, Value.int .u8 0, Value.int .u8 0, Value.int .u8 0, Value.int .u8 0, Value.int .u8 0, Value.int .u8 0, Value.int .u8 0, Value.int .u8 0, Value.int .u8 0, Value.int .u8 0, Value.int .u8 0, Value.int .u8 0, Value.int .u8 0, Value.int .u8 0, Value.int .u8 0, Value.int .u8 0, Value.int .u8 0, Value.int .u8 0, Value.int .u8 0, Value.int .u8 0, Value.int .u8 0, Value.int .u8 0, Value.int .u8 0, Value.int .u8 0, Value.int .u8 0, Value.int .u8 0, Value.int .u8 0, Value.int .u8 0, Value.int .u8 0])).run Tryz.prog w = .ok (digest l == List.replicate 32 0) w := by
  subst h
  exact eq_digests w (digest l) (List.replicate 32 0) (dlen l) rfl

theorem sl_info3 : (Tryz.prog.info? 22).map (fun i => (i.zero, i.size, i.bytes)) = some (some (.slice none 0 0), 1, 24) := by kernel_rfl

set_option maxRecDepth 100000 in
set_option maxHeartbeats 800000 in
theorem note_any (S : Nat → Prop) (g m : Nat) (L : List (List UInt8)) (c : Bool) (k : Nat) (A : Option Addr) (n cp : Nat) (x : List UInt8) (w : World) (D : List Value) (hD : cbs (digest x) = D)
    (h : BookM w S g m L c k) (hL : L.length < 1000000) (hB : Bs w A x) (hn : x.length = n) (hc : n ≤ cp) (hcm : cp ≤ maxLen) (hn6 : n ≤ 65536) :
    Calls Tryz.prog 145 #[.pointer (some ⟨g, 0, none⟩), .agg D.toArray, .slice A n cp] w fun e w' => e = .returned (.tuple #[]) ∧ BookM w' (Grown S w w') g m (noteL L c x).1 (noteL L c x).2 k ∧ Out S w w' := by
  obtain ⟨hblk, hSg, hst⟩ := h
  have hD32 : D.length = 32 := by rw [← hD, cbs_length, dlen]
  have b0 : Below w.heap.size w ((w.alloc (.cells D.toArray 59)).drew) := ((Below.refl _ _).alloc (Nat.le_refl _) _).drew
  obtain ⟨v, hlook, hkeep⟩ := (hst.below b0).look (digest x) (dlen x)
  rw [hD] at hlook
  obtain ⟨Ar, cr, rfl, hcr, hcrm⟩ := hkeep.form
  have hblk0 : Blk ((w.alloc (.cells D.toArray 59)).drew) g 93 (bcells m L.length c k) := hblk.below b0 hblk.lt
  have c0 : ((w.alloc (.cells D.toArray 59)).drew).cell? ⟨g, 0, none⟩ = some (.map (some m)) := hblk0.cell rfl
  have hdB : Blk ((w.alloc (.cells D.toArray 59)).drew) w.heap.size 59 D := Blk.new rfl rfl
  have hrd : ((w.alloc (.cells D.toArray 59)).drew).rangeAt w.heap.size 0 D := hdB.range
  have hid : (Tryz.prog.info? 59).map (·.size) = some D.length := by rw [hD32]; exact info32b
  have hud := Tryz.underlying59
  have h0 : Half w S g m L c k (.slice Ar (grp (digest x) L).length cr) A x D ((w.alloc (.cells D.toArray 59)).drew) := ⟨hblk0, hst.below b0, hkeep, hB.after b0, hdB, b0⟩
  have H := Lib.hid (And.intro h0 (And.intro hSg (And.intro hst.2.1 (And.intro hn hc))))
  clear hblk hSg hst hkeep hB hn hc h0 hdB hblk0 b0
  have hD := Lib.hid hD
  generalize hN : (grp (digest x) L).length = N at *
  unfold maxLen at hcm hcrm
  go_enter Tryz.func145, Tryz.ntmps145
  go_wp2
  go_region_held3 (fun W' => W'.cell? ⟨g, 0, none⟩ = some (.map (some m)) ∧ W'.rangeAt w.heap.size 0 D) (first | with_reducible exact ⟨c0, hrd⟩) (fail)
  go_wp2
  go_loopw [17] (fun v wr => ∃ j : Nat, j ≤ N ∧ v = .int .i64 j ∧ (∀ y ∈ (grp (digest x) L).take j, y ≠ x) ∧ Half w S g m L c k (.slice Ar N cr) A x D wr) (fun v _ => N - (intOf v).toNat)
  case atStart => exact ⟨0, Nat.zero_le _, rfl, by simp, H.out.1⟩
  case round =>
    obtain ⟨j, hj, rfl, hne, hH⟩ := hrel
    by_cases hlt : j < N
    · obtain ⟨b, Ax, cx, cr', hv, hcell, hlx, hcx, hBx⟩ := hH.2.2.1.at_ (j := j) (by omega)
      rw [hN] at hv
      injection hv with hv1 _ hv3
      subst hv1
      subst hv3
      have hjg : j < (grp (digest x) L).length := by omega
      obtain ⟨y, hy⟩ : ∃ y, y = (grp (digest x) L)[j] := ⟨_, rfl⟩
      rw [← hy] at hcell hlx hBx
      obtain ⟨ny, hny⟩ : ∃ ny, y.length = ny := ⟨_, rfl⟩
      rw [hny] at hcell hlx
      have heq := (bequal_any Ax A cx cp ny n y x _ hBx hH.2.2.2.1 hny H.out.2.2.2.1)
      have hi0 : (0 : Int) ≤ j := by omega
      have hi1 : (j : Int) < N := by omega
      have Hx := Lib.hid (And.intro hy (And.intro hne hH))
      clear hlx hBx hy hne hH
      by_cases he : y = x
      · have hb1 : (y == x) = true := by simpa using he
        rw [hb1] at heq
        have Heq := Lib.hid heq
        clear heq hb1
        go_wp2_with (go_at_call 158; refine Heq.out.mono ?_; rintro e w' ⟨rfl, rfl⟩)
        refine bodyPost_ret (results_none rfl _ _ _) rfl ?_
        refine ⟨rfl, noted_old Hx.out.2.2 H.out.2.1 H.out.2.2.1 (mem_grp.1 ?_)⟩
        have hmem := List.getElem_mem hjg
        rw [← Hx.out.1, he] at hmem
        exact hmem
      · have hb1 : (y == x) = false := by simpa using he
        rw [hb1] at heq
        have Heq := Lib.hid heq
        clear heq hb1
        go_wp2_with (go_at_call 158; refine Heq.out.mono ?_; rintro e w' ⟨rfl, rfl⟩)
        go_roundw
        case rel =>
          refine ⟨j + 1, by omega, by go_num, ?_, Hx.out.2.2⟩
          rw [List.take_succ_eq_append_getElem hjg, ← Hx.out.1]
          intro z hz
          rcases List.mem_append.1 hz with hz | hz
          · exact Hx.out.2.1 z hz
          · simp at hz; subst hz; exact he
        case measure => simp [intOf]; omega
    · have hjN : j = N := by omega
      subst hjN
      have hxL : x ∉ L := fun hx => by
        have := mem_grp.2 hx
        rw [List.take_of_length_le (by omega)] at hne
        exact hne x this rfl
      have Hx := Lib.hid (And.intro hxL hH)
      clear hxL hH hne
      have hHd : Half w S g m L c k (.slice Ar j cr) A x D wr.drew := ⟨Hx.out.2.1, Hx.out.2.2.1, Hx.out.2.2.2.1, Hx.out.2.2.2.2.1, Hx.out.2.2.2.2.2.1, Hx.out.2.2.2.2.2.2.drew⟩
      have c1 : wr.drew.cell? ⟨g, 0, none⟩ = some (.map (some m)) := hHd.1.cell rfl
      have r1 : wr.drew.rangeAt w.heap.size 0 D := hHd.2.2.2.2.1.range
      have hBd : Bs wr.drew A x := hHd.2.2.2.1
      have Hd := Lib.hid hHd
      have hput0 := fun wa hb hd hhd => note_put (w := w) (W := wr.drew) (wa := wa) hL hHd H.out.2.1 hb hd hhd hD.out
      simp only [hN] at hput0
      have Hput := Lib.hid hput0
      have hjL : j ≤ L.length := by rw [← hN]; exact List.length_filter_le _ _
      obtain ⟨i0, hi, hz0, hz1, hz2⟩ := info_parts sl_info3
      have Hi := Lib.hid (And.intro hi (And.intro hz0 (And.intro hz1 hz2)))
      clear hHd hi hz0 hz1 hz2 hput0
      go_wp2
      go_region_held3 (fun W' => W'.cell? ⟨g, 0, none⟩ = some (.map (some m)) ∧ W'.rangeAt w.heap.size 0 D) (first | with_reducible exact ⟨c1, r1⟩ | with_reducible exact ⟨c2, r2⟩ | with_reducible exact ⟨c3, r3⟩ | with_reducible exact ⟨c4, r4⟩ | with_reducible exact ⟨c5, r5⟩)
        (first
        | (go_at_call 61; refine (clone_any3 A cp n x _ hBd H.out.2.2.2.1 (by omega)).mono ?_; rintro e w1 ⟨vx, rfl, hNB⟩; obtain ⟨A2, cx2, rfl, _, _, _⟩ := hNB.form
           have c2 := (hNB.2.cell (w' := w1) (p := ⟨g, 0, none⟩) (by exact Hd.out.1.lt)).trans c1; have r2 := range_below hNB.2 r1
           have hba := hNB.2.alloc hNB.2.size (Obj.cells #[Value.slice A2 x.length cx2] 22)
           have c3 := (hba.cell (p := ⟨g, 0, none⟩) (by exact Hd.out.1.lt)).trans c1; have r3 := range_below hba r1
           obtain ⟨cs, hcs, hnext⟩ := Hput.out _ hba _ (World.ownsRow.alloc hNB.1 _)
           have Hcs := Lib.hid (And.intro hcs hnext)
           clear hcs hnext hba hNB)
        | (refine step_append_lies _ rfl _ _ 23 rfl 0 22 i0 (.slice none 0 0) 1 24 Tryz.underlying23 Hi.out.1 Hi.out.2.1 Hi.out.2.2.1 Hi.out.2.2.2 rfl (by decide) (.slice Ar j cr) j cs rfl Hcs.out.1 ⟨w1.heap.size, 0, none⟩ 1 1 [.slice A2 x.length cx2] rfl rfl (World.news_of_block (heap_alloc_new w1 _)) (by intro u hu; simp at hu; subst hu; rfl) (by decide) (by unfold maxLen; omega) (by omega) (Nat.zero_le _) _ rfl ?_
           intro g2 cap2 w2 hrow2 hgr2 hat2 hlt2
           obtain ⟨hg2, hd2, w3, hrun3, hAft⟩ := Hcs.out.2 _ w2 hrow2 hgr2 (hat2.imp (fun e => e.symm) (fun e => congrArg some e))
           have c4 : w2.cell? ⟨g, 0, none⟩ = some (.map (some m)) := hg2.cell rfl
           have r4 := hd2.range
           have c5 : w3.cell? ⟨g, 0, none⟩ = some (.map (some m)) := hAft.1.cell rfl
           have r5 := hAft.2.1.range
           have Ha := Lib.hid hAft
           clear hrow2 hgr2 hat2 hlt2 hg2 hd2 hAft))
      have hne3 : w.heap.size ≠ g := by have := H.out.2.2.1 g H.out.2.1; omega
      have c6 : w3.cell? ⟨g, 1, none⟩ = some (.int .i64 (L.length : Int)) := Ha.out.1.cell rfl
      have f6 : w3.frozen? ⟨g, 1, none⟩ = false := Ha.out.1.free 1
      have c7 : w3.cell? ⟨g, 2, none⟩ = some (.bool c) := Ha.out.1.cell rfl
      have f7 : w3.frozen? ⟨g, 2, none⟩ = false := Ha.out.1.free 2
      have hb4 : Blk (w3.setCell ⟨g, 1, none⟩ (.int .i64 ((L.length : Int) + 1))) g 93 (bcells m (L.length + 1) c k) := Ha.out.1.set_ 1 _
      have hd4 : Blk (w3.setCell ⟨g, 1, none⟩ (.int .i64 ((L.length : Int) + 1))) w.heap.size 59 D := Ha.out.2.1.far hne3 _
      have hbut4 : But g w3 (w3.setCell ⟨g, 1, none⟩ (.int .i64 ((L.length : Int) + 1))) := (But.refl g w3).setCell (.inl rfl) _
      have hs4 : (w3.setCell ⟨g, 1, none⟩ (.int .i64 ((L.length : Int) + 1))).heap.size = w3.heap.size := by simp [World.setCell]
      have hb5 : Blk ((w3.setCell ⟨g, 1, none⟩ (.int .i64 ((L.length : Int) + 1))).setCell ⟨g, 2, none⟩ (.bool true)) g 93 (bcells m (L.length + 1) true k) := hb4.set_ 2 _
      have H4 := Lib.hid (And.intro hb4 (And.intro hd4 (And.intro hbut4 (And.intro hs4 (And.intro hb5 (And.intro (hbut4.setCell (p := ⟨g, 2, none⟩) (.inl rfl) (.bool true)) ((by simp [World.setCell] : ((w3.setCell ⟨g, 1, none⟩ (.int .i64 ((L.length : Int) + 1))).setCell ⟨g, 2, none⟩ (.bool true)).heap.size = w3.heap.size))))))))
      have hW := Hd.out.2.2.2.2.2
      have HW := Lib.hid hW
      clear hb4 hd4 hbut4 hs4 hb5 hW
      by_cases hj0 : 0 < j
      · have hgrp : grp (digest x) L ≠ [] := fun e => by rw [e] at hN; simp at hN; omega
        have hcl : (c || decide (grp (digest x) L ≠ []) || digest x == List.replicate 32 0) = true := by simp [hgrp]
        have hi1 : (0 : Int) < j := by omega
        have Hc := Lib.hid hcl
        clear hcl hgrp
        go_wp2
        go_end0
        exact ⟨rfl, noted_new Ha.out HW.out Hx.out.1 H.out.2.1 H4.out.2.2.2.2.2.1 H4.out.2.2.2.2.2.2 (by rw [Hc.out]; exact H4.out.2.2.2.2.1)⟩
      · have hi1 : ¬ (0 : Int) < j := by omega
        have Hid := Lib.hid hid
        have hg0 : grp (digest x) L = [] := List.eq_nil_of_length_eq_zero (by omega)
        have hz := eq_zero32 D x hD.out
        clear hid
        cases hzb : (digest x == List.replicate 32 0) with
        | true =>
          have hcl : (c || decide (grp (digest x) L ≠ []) || digest x == List.replicate 32 0) = true := by rw [hzb]; simp
          rw [hzb] at hz
          have Hc := Lib.hid hcl
          clear hcl hg0 hzb
          go_wp2_with (refine load_row_g (by rfl) 59 _ rfl w.heap.size rfl 59 D.toArray (0, 0) _ H4.out.2.1 Tryz.underlying59 rfl Hid.out ?_; simp only [Act.put])
          go_end0
          exact ⟨rfl, noted_new Ha.out HW.out Hx.out.1 H.out.2.1 H4.out.2.2.2.2.2.1 H4.out.2.2.2.2.2.2 (by rw [Hc.out]; exact H4.out.2.2.2.2.1)⟩
        | false =>
          have hcl : (c || decide (grp (digest x) L ≠ []) || digest x == List.replicate 32 0) = c := by rw [hzb, hg0]; simp
          rw [hzb] at hz
          have Hc := Lib.hid hcl
          clear hcl hg0 hzb
          go_wp2_with (refine load_row_g (by rfl) 59 _ rfl w.heap.size rfl 59 D.toArray (0, 0) _ H4.out.2.1 Tryz.underlying59 rfl Hid.out ?_; simp only [Act.put])
          go_end0
          exact ⟨rfl, noted_new Ha.out HW.out Hx.out.1 H.out.2.1 H4.out.2.2.1 H4.out.2.2.2.1 (by rw [Hc.out]; exact H4.out.1)⟩

end Go.Proofs.YtfaeechidjpjbaaGreat

namespace Go.Proofs.YtfaeechidjpjbaaGreat

open Go.RowKit Go.Maps

set_option linter.unusedVariables false

def limitE : Int := 5

section

variable {w w' : World} {S S' : Nat → Prop} {g m : Nat} {L : List (List UInt8)} {c : Bool} {k : Nat}

theorem BookM.lt (h : BookM w S g m L c k) {i : Nat} (hi : S i) : i < w.heap.size := h.2.2.2.1 i hi

theorem BookM.own (h : BookM w S g m L c k) : S g := h.2.1

theorem BookM.stay (h : BookM w S g m L c k) (hz : w.heap.size ≤ w'.heap.size) (hk : ∀ i, S i → w'.heap[i]? = w.heap[i]?) : BookM w' S g m L c k := by
  obtain ⟨h1, h2, h3⟩ := h
  exact ⟨(hk g h2).trans h1, h2, h3.stay hz fun i o hi ho _ => (hk i hi).trans ho⟩

theorem BookM.below (h : BookM w S g m L c k) (hb : Below w.heap.size w w') : BookM w' S g m L c k :=
  h.stay hb.size fun i hi => hb.block i (h.lt hi)

theorem BookM.more (h : BookM w S g m L c k) (hS : ∀ i, S i → S' i) (hb : ∀ i, S' i → i < w.heap.size) : BookM w S' g m L c k := by
  obtain ⟨h1, h2, h3⟩ := h
  exact ⟨h1, hS g h2, h3.more hS hb⟩

end

/-- What Of makes of a book, and answers. -/
def ofL (L : List (List UInt8)) (c : Bool) (k : Nat) (x : List UInt8) : List (List UInt8) × Bool × Nat := if x.length ≤ 65536 then ((noteL L c x).1, (noteL L c x).2, k + 1) else (L, c, k)

def ofD (x : List UInt8) : List UInt8 := if x.length ≤ 65536 then digest x else List.replicate 32 0

def ofE (x : List UInt8) : Int := if x.length ≤ 65536 then 0 else 5

theorem badd_book {w : World} {S : Nat → Prop} {g m : Nat} {L : List (List UInt8)} {c : Bool} {k : Nat} (h : BookM w S g m L c k) : BookM (w.setCell ⟨g, 3, none⟩ (.int .i64 ((k + 1 : Nat) : Int))) S g m L c (k + 1) := by
  obtain ⟨h1, h2, h3⟩ := h
  refine ⟨h1.set_ 3 _, h2, h3.stay (by simp [World.setCell]) fun i o hi ho hb => ?_⟩
  refine (Below.heap_setCell w ⟨g, 3, none⟩ _ i ?_).trans ho
  rintro rfl
  exact hb _ _ (Option.some.inj (ho.symm.trans h1))

set_option maxRecDepth 100000 in
set_option maxHeartbeats 800000 in
theorem bof_any (S : Nat → Prop) (g m : Nat) (L : List (List UInt8)) (c : Bool) (k : Nat) (A : Option Addr) (n cp : Nat) (x : List UInt8) (w : World)
    (h : BookM w S g m L c k) (hL : L.length < 1000000) (hk : k < 1000000) (hB : Bs w A x) (hn : x.length = n) (hc : n ≤ cp) (hcm : cp ≤ maxLen) :
    Calls Tryz.prog 138 #[.pointer (some ⟨g, 0, none⟩), .slice A n cp] w fun e w' =>
      e = .returned (.tuple #[.agg (cbs (ofD x)).toArray, .int .i64 (ofE x)]) ∧ BookM w' (Grown S w w') g m (ofL L c k x).1 (ofL L c k x).2.1 (ofL L c k x).2.2 ∧ Out S w w' := by
  have hb := h.1
  have b0 : Below w.heap.size w (w.alloc (.cells (cbs (List.replicate 32 0)).toArray 59)) := (Below.refl _ _).alloc (Nat.le_refl _) _
  by_cases hle : x.length ≤ 65536
  rotate_left
  · have e1 : ofL L c k x = (L, c, k) := if_neg hle
    have e2 : ofD x = List.replicate 32 0 := if_neg hle
    have e3 : ofE x = 5 := if_neg hle
    rw [e1, e2, e3]
    have hgt : (65536 : Int) < n := by omega
    have Hno := Lib.hid (bnone_any g m L.length k c _ (hb.below b0 hb.lt))
    have hZ : Blk (w.alloc (.cells (cbs (List.replicate 32 0)).toArray 59)) w.heap.size 59 (cbs (List.replicate 32 0)) := Blk.new rfl rfl
    have hth : (w.alloc (.cells (cbs (List.replicate 32 0)).toArray 59)).there w.heap.size 0 (cbs (List.replicate 32 0)).toArray.size := hZ.there
    have hR := hZ.setAll (vs := cbs (List.replicate 32 0)) rfl
    have hb1 : Below w.heap.size w ((w.alloc (.cells (cbs (List.replicate 32 0)).toArray 59)).setCells w.heap.size 0 (cbs (List.replicate 32 0))) := Below.setCells (Nat.le_refl _) _ b0
    have Hb := Lib.hid (And.intro hth (And.intro hR (And.intro h hb1)))
    clear h hb e1 e2 e3 hB hn hc hcm b0 hZ hth hR hb1
    go_enter Tryz.func138, Tryz.ntmps138
    go_wp2_with (first | (go_at_call 65; refine Hno.out.mono ?_; rintro e w' ⟨rfl, rfl⟩) | (refine wpList_store_mid rfl 59 _ _ rfl w.heap.size 0 (cbs (List.replicate 32 0)).toArray rfl rfl Hb.out.1 info32b (cbs_one' _) ?_))
    refine bodyPost_ret (results_row_tmp3 rfl _ _ w.heap.size 59 (cbs (List.replicate 32 0)).toArray (0, 0) _ rfl Hb.out.2.1 Tryz.underlying59 rfl info32b) rfl ?_
    exact ⟨rfl, (Hb.out.2.2.1.below Hb.out.2.2.2).more (fun i hi => .inl hi) (fun i hi => by
      rcases hi with hi | hi
      · exact Nat.lt_of_lt_of_le (Hb.out.2.2.1.lt hi) Hb.out.2.2.2.size
      · exact hi.2), Out.ofBelow S Hb.out.2.2.2⟩
  · have e1 : ofL L c k x = ((noteL L c x).1, (noteL L c x).2, k + 1) := if_pos hle
    have e2 : ofD x = digest x := if_pos hle
    have e3 : ofE x = 0 := if_pos hle
    rw [e1, e2, e3]
    have hgt : (n : Int) ≤ 65536 := by omega
    have Hno := Lib.hid (bnone_any g m L.length k c _ (hb.below b0 hb.lt))
    obtain ⟨D, hD32, hDv, hD1⟩ : ∃ D : List Value, D.length = 32 ∧ cbs (digest x) = D ∧ D.toArray.all (·.oneCell') = true := ⟨cbs (digest x), by rw [cbs_length, dlen], rfl, cbs_one' _⟩
    rw [hDv]
    have hof := of_any A n cp x _ (hB.after b0) hn hc hcm (by omega)
    rw [hDv] at hof
    have Hof := Lib.hid hof
    have Hb := Lib.hid (And.intro h (And.intro b0 (And.intro hB (And.intro hn (And.intro hc (And.intro hcm (And.intro hD32 (And.intro hDv hD1))))))))
    have hn6 : n ≤ 65536 := by omega
    have hZ0 : Blk (w.alloc (.cells (cbs (List.replicate 32 0)).toArray 59)) w.heap.size 59 (cbs (List.replicate 32 0)) := Blk.new rfl rfl
    have HZ := Lib.hid hZ0
    clear h hb e1 e2 e3 hB hn hc hcm b0 hD32 hDv hD1 hof hZ0
    go_enter Tryz.func138, Tryz.ntmps138
    go_wp2_with (go_at_call 65; refine Hno.out.mono ?_; rintro e w' ⟨rfl, rfl⟩)
    refine Hof.out.mono ?_
    rintro e w1 ⟨rfl, hb1⟩
    obtain ⟨h, b0, hB, hn, hc, hcm, hD32, hDv, hD1⟩ := Hb.out
    have hsz1 := hb1.size
    rw [World.size_alloc] at hsz1
    have hsD : D.toArray.size = 32 := by rw [List.size_toArray]; exact hD32
    have hbA : Below w.heap.size w w1 := b0.trans (hb1.mono (by simp))
    have hdB : Blk (w1.alloc (.cells (cbs (List.replicate 32 0)).toArray 59)) w1.heap.size 59 (cbs (List.replicate 32 0)) := Blk.new rfl rfl
    have hth : (w1.alloc (.cells (cbs (List.replicate 32 0)).toArray 59)).there w1.heap.size 0 D.toArray.size := by
      have e := hdB.there
      rw [cbs_length, List.length_replicate] at e
      rw [hsD]; exact e
    have hi : (Tryz.prog.info? 59).map (·.size) = some D.toArray.size := by rw [hsD]; exact info32b
    have hdS := hdB.setAll (vs := D) (by rw [hD32, cbs_length, List.length_replicate])
    have hZ1 : Blk w1 w.heap.size 59 (cbs (List.replicate 32 0)) := Blk.below HZ.out hb1 (by simp)
    have hZS := Blk.farAll (g' := w1.heap.size) (by omega) D (w := w1.alloc (.cells (cbs (List.replicate 32 0)).toArray 59)) (o := 0) (hZ1.old _)
    have hbS : Below w.heap.size w ((w1.alloc (.cells (cbs (List.replicate 32 0)).toArray 59)).setCells w1.heap.size 0 D) := Below.setCells (by omega) _ (hbA.alloc (by omega) _)
    obtain ⟨wS, hwS⟩ : ∃ wS, (w1.alloc (.cells (cbs (List.replicate 32 0)).toArray 59)).setCells w1.heap.size 0 D = wS := ⟨_, rfl⟩
    rw [hwS] at hdS hZS hbS
    have Hth := Lib.hid hth
    have Hi := Lib.hid hi
    have Hd := Lib.hid (And.intro hdS (And.intro hZS hbS))
    have Hnote := Lib.hid (note_any S g m L c k A n cp x wS D hDv (h.below hbS) hL (hB.after hbS) hn hc hcm hn6)
    have HwS := Lib.hid hwS
    have hsD1 := Lib.hid hD1
    have h141 := Lib.hid hsz1
    have hlt := Lib.hid (fun i hi => h.lt (i := i) hi)
    clear h b0 hB hn hc hcm hD32 hDv hD1 hsD hbA hdB hth hi hdS hZ1 hZS hbS hwS hsz1 hb1
    go_wp2_with (first
      | (refine wpList_store_mid rfl 59 _ _ rfl w1.heap.size 0 D.toArray rfl rfl Hth.out Hi.out hsD1.out ?_; simp only [Act.put]; refine cast (congrArg (fun z => wpList _ _ _ _ _ z) HwS.out.symm) ?_)
      | (refine wpList_load_row rfl 59 _ rfl w1.heap.size rfl 59 D.toArray (0, 0) _ Hd.out.1 Tryz.underlying59 rfl Hi.out ?_))
    refine Hnote.out.mono ?_
    rintro e w2 ⟨rfl, hBk2, hO2⟩
    have hn1 : ¬ S w1.heap.size := fun e => by have := hlt.out _ e; have := h141.out; omega
    have hn2 : ¬ S w.heap.size := fun e => by have := hlt.out _ e; omega
    have hd2 := hO2.blk Hd.out.1 hn1
    have hZ2 := hO2.blk Hd.out.2.1 hn2
    have hown2 := hBk2.own
    have hbk2 := hBk2.1
    have hg2 : g < w.heap.size := hlt.out g Hb.out.1.own
    have Hadd := Lib.hid (badd_any g k (by omega) w2 (hbk2.cell rfl) (hbk2.free 3))
    have H2 := Lib.hid (And.intro hBk2 (And.intro hO2 (And.intro hd2 hZ2)))
    clear hBk2 hO2 hd2 hZ2 hbk2 hown2
    go_wp2_with fail
    refine Hadd.out.mono ?_
    rintro e w3 ⟨rfl, rfl⟩
    obtain ⟨w3, hw3⟩ : ∃ w3, w2.setCell ⟨g, 3, none⟩ (.int .i64 ((k + 1 : Nat) : Int)) = w3 := ⟨_, rfl⟩
    have hB3 := badd_book H2.out.1
    have hO3 : Out S wS (w2.setCell ⟨g, 3, none⟩ (.int .i64 ((k + 1 : Nat) : Int))) := H2.out.2.1.setCell (fun _ => Hb.out.1.own) _
    have hd3 := H2.out.2.2.1.far (p := ⟨g, 3, none⟩) (by have := h141.out; show _ ≠ g; omega) (.int .i64 ((k + 1 : Nat) : Int))
    have hZ3 := H2.out.2.2.2.far (p := ⟨g, 3, none⟩) (by show _ ≠ g; omega) (.int .i64 ((k + 1 : Nat) : Int))
    have hsz3 : (w2.setCell ⟨g, 3, none⟩ (.int .i64 ((k + 1 : Nat) : Int))).heap.size = w2.heap.size := by simp [World.setCell]
    rw [hw3] at hB3 hO3 hd3 hZ3 hsz3 ⊢
    have hsD : D.toArray.size = 32 := by rw [List.size_toArray]; exact Hb.out.2.2.2.2.2.2.1
    have hth3 : w3.there w.heap.size 0 D.toArray.size := by
      have e := hZ3.there
      rw [cbs_length, List.length_replicate] at e
      rw [hsD]; exact e
    have hR := hZ3.setAll (vs := D) (by rw [Hb.out.2.2.2.2.2.2.1, cbs_length, List.length_replicate])
    have H3 := Lib.hid (And.intro hB3 (And.intro hO3 (And.intro hd3 (And.intro hth3 (And.intro hR hsz3)))))
    clear hB3 hO3 hd3 hZ3 hsz3 hth3 hR hw3 hsD
    go_wp2_with (first
      | (refine wpList_load_row rfl 59 _ rfl w1.heap.size rfl 59 D.toArray (0, 0) _ H3.out.2.2.1 Tryz.underlying59 rfl Hi.out ?_)
      | (refine wpList_store_mid rfl 59 _ _ rfl w.heap.size 0 D.toArray rfl rfl H3.out.2.2.2.1 Hi.out hsD1.out ?_))
    refine bodyPost_ret (results_row_tmp3 rfl _ _ w.heap.size 59 D.toArray (0, 0) _ rfl H3.out.2.2.2.2.1 Tryz.underlying59 rfl Hi.out) rfl ?_
    have hbs : But w.heap.size w3 (w3.setCells w.heap.size 0 D) := But.setCells (.inl rfl) D (But.refl _ _)
    have hsS := Hd.out.2.2.size
    have hltS : w.heap.size < wS.heap.size := by have := Hd.out.1.lt; have := h141.out; omega
    have hs3 := H3.out.2.2.2.2.2
    have hsz := hbs.size
    have hnot : ∀ i, Grown S wS w2 i → i ≠ w.heap.size := fun i hi e => by
      rcases hi with hi | hi
      · exact hn2 (e ▸ hi)
      · omega
    refine ⟨rfl, (H3.out.1.stay hsz fun i hi => hbs.block i (H3.out.1.lt hi) fun e => hnot i hi (Option.some.inj e)).more (fun i hi => ?_) (fun i hi => ?_), ?_⟩
    · rcases hi with hi | hi
      · exact .inl hi
      · exact .inr ⟨by omega, by omega⟩
    · rcases hi with hi | hi
      · exact Nat.lt_of_lt_of_le (H3.out.1.lt (.inl hi)) hsz
      · exact hi.2
    · exact ((Out.ofBelow S Hd.out.2.2).trans H3.out.2.1 fun _ _ e => e).then_grown hbs fun i hi h => by injection hi with hi; omega

end Go.Proofs.YtfaeechidjpjbaaGreat

namespace Go.Proofs.YtfaeechidjpjbaaGreat

open Go.RowKit Go.Maps

set_option linter.unusedVariables false

/-- The bytes of a slice lie in none of these blocks. -/
def OffS (S : Nat → Prop) (A : Option Addr) (l : List UInt8) : Prop := l ≠ [] → ∀ a, A = some a → ¬ S a.block

theorem Bs.out {S : Nat → Prop} {w w' : World} {A : Option Addr} {l : List UInt8} (h : Bs w A l) (ho : OffS S A l) (hw : Out S w w') : Bs w' A l := by
  refine ⟨h.1, fun hn => ?_⟩
  obtain ⟨b, off, e, hb, hc⟩ := h.2 hn
  refine ⟨b, off, e, Nat.lt_of_lt_of_le hb hw.size, fun j u hu => ?_⟩
  have hne : l ≠ [] := fun e => by subst e; simp at hn
  exact (World.cell?_of_block (a := ⟨b, off + j, none⟩) (hw.block b hb (ho hne _ e))).trans (hc j u hu)

theorem Bs.off {w : World} {A : Option Addr} {l : List UInt8} {S : Nat → Prop} (h : Bs w A l) (hS : ∀ i, S i → w.heap.size ≤ i) : OffS S A l := fun hl a ha hs => by
  obtain ⟨b, off, e, hb, _⟩ := h.2 (by cases l with | nil => exact absurd rfl hl | cons x t => simp)
  rw [ha] at e
  cases e
  have := hS _ hs
  simp only at this
  omega

theorem OffS.mono {A : Option Addr} {l : List UInt8} {S S' : Nat → Prop} (h : OffS S A l) (hS : ∀ i a, A = some a → l ≠ [] → a.block = i → S' i → S i) : OffS S' A l := fun hl a ha hs => h hl a ha (hS _ a ha hl rfl hs)

theorem OffS.grown {A : Option Addr} {l : List UInt8} {S : Nat → Prop} {w w' : World} (h : OffS S A l) (hB : Bs w A l) : OffS (Grown S w w') A l := fun hl a ha hs => by
  obtain ⟨b, off, e, hb, _⟩ := hB.2 (by cases l with | nil => exact absurd rfl hl | cons x t => simp)
  rw [ha] at e
  cases e
  rcases hs with hs | hs
  · exact h hl _ ha hs
  · have := hs.1; simp only at this; omega

end Go.Proofs.YtfaeechidjpjbaaGreat

namespace Go.Proofs.YtfaeechidjpjbaaGreat

open Go.RowKit Go.Maps

section

variable {P : Program} {ops : Array Oper} {Q : Exit → Act → World → Prop} {md : Region.Mode} {S : World → Prop}

theorem wpAnyH_take' {i d : Nat} {oi : Oper} {v : Value} {fuel : Nat} {listed : Array Bool} {a : Act} {w : World} (hi : ops[i]? = some oi) (hd : oi.dst = some d)
    (hs : Region.noSelect ops = true) (hf : Region.free md ops listed i = true) (hr : (Region.ready md ops listed).contains i = true)
    (hQ : ∀ c a w, Q (.panic c) (a.put oi.dst v) w → Q (.panic c) a w) (hy : YieldsIf P ops S oi v a) (hS : S w)
    (h : wpAnyH P md ops Q S fuel (listed.setIfInBounds i true) { a with tmps := a.tmps.setIfInBounds d v } w) : wpAnyH P md ops Q S (fuel + 1) listed a w :=
  wpAnyH_take hi hs hf hr hQ hy hS (by unfold Act.put; rw [hd]; exact h)

end

end Go.Proofs.YtfaeechidjpjbaaGreat

namespace Go.Proofs.YtfaeechidjpjbaaGreat

open Go.RowKit Go.Maps

set_option linter.unusedVariables false

theorem size_cells3 (vs : List Value) : ∀ (w : World) (b o : Nat), (w.setCells b o vs).heap.size = w.heap.size := by
  induction vs with
  | nil => intro w b o; rfl
  | cons v vs ih => intro w b o; rw [World.setCells, ih]; simp [World.setCell]

theorem dig_local (w1 : World) (D : List Value) (hD : D.length = 32) : ∃ wS, (w1.alloc (.cells (cbs (List.replicate 32 0)).toArray 59)).setCells w1.heap.size 0 D = wS ∧
    ((w1.alloc (.cells (cbs (List.replicate 32 0)).toArray 59)).there w1.heap.size 0 D.toArray.size ∧ (Tryz.prog.info? 59).map (·.size) = some D.toArray.size) ∧
    Blk wS w1.heap.size 59 D ∧ Below w1.heap.size w1 wS ∧ wS.heap.size = w1.heap.size + 1 := by
  have hsD : D.toArray.size = 32 := by rw [List.size_toArray]; exact hD
  have hdB : Blk (w1.alloc (.cells (cbs (List.replicate 32 0)).toArray 59)) w1.heap.size 59 (cbs (List.replicate 32 0)) := Blk.new rfl rfl
  refine ⟨_, rfl, ⟨?_, ?_⟩, ?_, ?_, ?_⟩
  · have e := hdB.there
    rw [cbs_length, List.length_replicate] at e
    rw [hsD]; exact e
  · rw [hsD]; exact info32b
  · exact hdB.setAll (vs := D) (by rw [hD, cbs_length, List.length_replicate])
  · exact Below.setCells (by omega) _ ((Below.refl _ _).alloc (Nat.le_refl _) _)
  · rw [size_cells3, World.size_alloc]

theorem dig_cells (x : List UInt8) : ∃ D : List Value, D.length = 32 ∧ cbs (ofD x) = D ∧ D.toArray.all (·.oneCell') = true :=
  ⟨cbs (ofD x), by rw [cbs_length]; unfold ofD; split; exact dlen x; rfl, rfl, cbs_one' _⟩


theorem one_noted (x : List UInt8) (h : x.length ≤ 65536) : ofL [] false 0 x = ([x], digest x == List.replicate 32 0, 1) := by
  unfold ofL noteL grp
  rw [if_pos h, if_neg (by simp)]
  simp

end Go.Proofs.YtfaeechidjpjbaaGreat

namespace Go.Proofs.YtfaeechidjpjbaaGreat

set_option linter.unusedVariables false

def stepL (s : List (List UInt8) × Bool × Nat) (x : List UInt8) : List (List UInt8) × Bool × Nat := ofL s.1 s.2.1 s.2.2 x

def runL (ls : List (List UInt8)) : List (List UInt8) × Bool × Nat := ls.foldl stepL ([], false, 0)

theorem runL_snoc (ls : List (List UInt8)) (x : List UInt8) : runL (ls ++ [x]) = stepL (runL ls) x := by unfold runL; rw [List.foldl_append]; rfl

theorem runL_succ (ls : List (List UInt8)) (j : Nat) (hj : j < ls.length) : runL (ls.take (j + 1)) = stepL (runL (ls.take j)) ls[j] := by
  rw [List.take_succ_eq_append_getElem hj, runL_snoc]

theorem stepL_len (s : List (List UInt8) × Bool × Nat) (x : List UInt8) : (stepL s x).1.length ≤ s.1.length + 1 ∧ (stepL s x).2.2 ≤ s.2.2 + 1 := by
  unfold stepL ofL noteL
  split
  · split <;> simp
  · simp

theorem snoc_ind {P : List (List UInt8) → Prop} (h0 : P []) (hs : ∀ ls x, P ls → P (ls ++ [x])) (ls : List (List UInt8)) : P ls := by
  have : ∀ r : List (List UInt8), P r.reverse := fun r => by
    induction r with
    | nil => exact h0
    | cons x r ih => rw [List.reverse_cons]; exact hs _ _ ih
  have h := this ls.reverse
  rwa [List.reverse_reverse] at h

theorem runL_len (ls : List (List UInt8)) : (runL ls).1.length ≤ ls.length ∧ (runL ls).2.2 ≤ ls.length := by
  refine snoc_ind (P := fun ls => (runL ls).1.length ≤ ls.length ∧ (runL ls).2.2 ≤ ls.length) ?_ (fun ls x ih => ?_) ls
  · simp [runL]
  · rw [runL_snoc, List.length_append]
    have := stepL_len (runL ls) x
    simp only [List.length_singleton]
    omega

/-- As long as there is no clash, unlike inputs have unlike digests. -/
def Unmixed (s : List (List UInt8) × Bool × Nat) : Prop := s.2.1 = false → ∀ x ∈ s.1, ∀ y ∈ s.1, digest x = digest y → x = y

theorem stepL_good (s : List (List UInt8) × Bool × Nat) (x : List UInt8) (h : Unmixed s) : Unmixed (stepL s x) := by
  unfold stepL ofL noteL
  by_cases hl : x.length ≤ 65536
  rotate_left
  · rw [if_neg hl]; exact h
  rw [if_pos hl]
  by_cases hx : x ∈ s.1
  · rw [if_pos hx]; exact h
  rw [if_neg hx]
  intro hc
  simp only [Bool.or_eq_false_iff, decide_eq_false_iff_not, ne_eq, Decidable.not_not] at hc
  obtain ⟨⟨h1, h2⟩, _⟩ := hc
  have hno : ∀ y ∈ s.1, digest y ≠ digest x := fun y hy e => by
    have : y ∈ grp (digest x) s.1 := by unfold grp; rw [List.mem_filter]; exact ⟨hy, beq_iff_eq.2 e⟩
    rw [h2] at this; cases this
  intro y hy z hz e
  simp only [List.mem_append, List.mem_singleton] at hy hz
  rcases hy with hy | rfl
  · rcases hz with hz | rfl
    · exact h h1 y hy z hz e
    · exact absurd e (hno y hy)
  · rcases hz with hz | rfl
    · exact absurd e.symm (hno z hz)
    · rfl

theorem runL_good (ls : List (List UInt8)) : Unmixed (runL ls) := by
  refine snoc_ind (P := fun ls => Unmixed (runL ls)) ?_ (fun ls x ih => ?_) ls
  · intro _ x hx; simp [runL] at hx
  · rw [runL_snoc]; exact stepL_good _ _ ih

theorem stepL_mem (s : List (List UInt8) × Bool × Nat) (x y : List UInt8) : y ∈ (stepL s x).1 ↔ y ∈ s.1 ∨ (y = x ∧ x.length ≤ 65536) := by
  unfold stepL ofL noteL
  by_cases hl : x.length ≤ 65536
  · rw [if_pos hl]
    by_cases hx : x ∈ s.1
    · rw [if_pos hx]
      exact ⟨.inl, fun h => by rcases h with h | ⟨rfl, _⟩; exact h; exact hx⟩
    · rw [if_neg hx]; simp [hl]
  · rw [if_neg hl]; simp [hl]

theorem runL_mem (ls : List (List UInt8)) (y : List UInt8) : y ∈ (runL ls).1 ↔ y ∈ ls ∧ y.length ≤ 65536 := by
  refine snoc_ind (P := fun ls => y ∈ (runL ls).1 ↔ y ∈ ls ∧ y.length ≤ 65536) ?_ (fun ls x ih => ?_) ls
  · simp [runL]
  · rw [runL_snoc, stepL_mem, ih, List.mem_append, List.mem_singleton]
    constructor
    · rintro (h | ⟨rfl, h⟩)
      · exact ⟨.inl h.1, h.2⟩
      · exact ⟨.inr rfl, h⟩
    · rintro ⟨h | rfl, h2⟩
      · exact .inl ⟨h, h2⟩
      · exact .inr ⟨rfl, h2⟩

/-- An input that is there changes nothing but how often it was asked. -/
theorem ofL_old {L : List (List UInt8)} {c : Bool} {k : Nat} {x : List UInt8} (hx : x ∈ L) (hl : x.length ≤ 65536) : ofL L c k x = (L, c, k + 1) := by
  unfold ofL noteL
  rw [if_pos hl, if_pos hx]

theorem ofL_long {L : List (List UInt8)} {c : Bool} {k : Nat} {x : List UInt8} (hl : ¬ x.length ≤ 65536) : ofL L c k x = (L, c, k) := if_neg hl

end Go.Proofs.YtfaeechidjpjbaaGreat
