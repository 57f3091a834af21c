/-
  Laid together for a hand-in: Va16, Pu16, Rf16, Ag16, Se16.
-/
import Derived.Test.YtfaeechidjpjbaaGreatZ09
import Derived.Test.YtfaeechidjpjbaaGreatZ08
import Derived.Test.YtfaeechidjpjbaaGreatZ05
import Derived.Test.YtfaeechidjpjbaaGreatZ01
import Derived.Test.YtfaeechidjpjbaaGreatZ02
import Derived.BigQuiet
import Derived.Laws.CopyOwn

namespace Go.Proofs.YtfaeechidjpjbaaGreat
open Go.RowKit
set_option linter.unusedVariables false
set_option linter.unusedSimpArgs false

/-! ### Plain -/
structure C16 where
  st : Int
  da : List UInt8
structure Va where
  gr : Int
  ep : Int
  bl : Nat → List UInt8
  cl : Nat → C16
  sea : List Int
structure An where
  er : Int
  da : List UInt8
  ep : Int
def an0 : An := ⟨0, [], 0⟩
def newV (gr : Int) : Va := ⟨gr, 0, fun _ => List.replicate 16 0, fun _ => ⟨0, []⟩, []⟩
def cN (x : Wl) : Nat := (x.cl - 31).toNat
def bN (x : Wl) : Nat := x.bl.toNat
def refS (v : Va) (x : Wl) : Option An := if x.ep ≠ v.ep then some ⟨171, [], v.ep⟩ else if v.sea ≠ [] then some ⟨171, [], v.ep + 1⟩ else none
def agS (v : Va) (x : Wl) : Option An := if x.sp = (v.cl (cN x)).st then some ⟨0, (v.cl (cN x)).da, 0⟩ else if x.sp < (v.cl (cN x)).st then some ⟨172, [], 0⟩ else none
def Va.put (v : Va) (i : Nat) (l : List UInt8) : Va := { v with bl := fun j => if j = i then l else v.bl j }
def Va.who (v : Va) (i : Nat) (c : C16) : Va := { v with cl := fun j => if j = i then c else v.cl j }
def endS (v : Va) (x : Wl) : Va × An := match refS v x with
  | some a => (v, a)
  | none => if v.ep = 1048576 then (v, ⟨5, [], 0⟩) else ({ v with sea := x.nx }, an0)
def srvS (v : Va) (x : Wl) : Va × An := match refS v x with
  | some a => (v, a)
  | none => if x.kd = 2 then ((v.put (bN x) x.da).who (cN x) ⟨x.sp, []⟩, an0) else (v.who (cN x) ⟨x.sp, v.bl (bN x)⟩, ⟨0, v.bl (bN x), 0⟩)
def lookB (v : Va) (x : Wl) : Bool := decide (May x) && decide (x.gr = v.gr)
def doE (v : Va) (x : Wl) : Int := if lookB v x = true then 0 else 2
def doS (v : Va) (x : Wl) : Va × An := if lookB v x = false then (v, an0) else if x.kd = 5 then endS v x else match agS v x with
  | some a => (v, a)
  | none => srvS v x
def turnE (v : Va) : Int := if v.sea = [] then 171 else if v.ep = 1048576 then 5 else 0
def turnS (v : Va) : Va := if turnE v = 0 then { v with ep := v.ep + 1, sea := [] } else v
structure Va.ok (v : Va) : Prop where
  gr : 1 ≤ v.gr ∧ v.gr ≤ 2
  ep : 0 ≤ v.ep ∧ v.ep ≤ 1048576
  bl : ∀ i, i < 8 → (v.bl i).length = 16
  cl : ∀ i, i < 4 → ((v.cl i).da.length = 0 ∨ (v.cl i).da.length = 16) ∧ 0 ≤ (v.cl i).st ∧ (v.cl i).st ≤ 9007199254740991
  sea : v.sea = [] ∨ Nxt v.sea
theorem newV_ok {gr : Int} (h : 1 ≤ gr ∧ gr ≤ 2) : (newV gr).ok := ⟨h, ⟨Int.le_refl 0, by show (0 : Int) ≤ 1048576; omega⟩, fun _ _ => by simp [newV], fun _ _ => ⟨.inl rfl, Int.le_refl 0, by show (0 : Int) ≤ 9007199254740991; omega⟩, .inl rfl⟩
/-- A client's wish. -/
theorem may_client {x : Wl} (h : May x) (hk : x.kd ≠ 5) (hg : 1 ≤ x.gr) : (31 ≤ x.cl ∧ x.cl ≤ 34) ∧ (1 ≤ x.sp ∧ x.sp ≤ 9007199254740991) ∧ (0 ≤ x.bl ∧ x.bl ≤ 7) ∧ (x.kd = 1 ∨ x.kd = 2) ∧ (x.kd = 2 → x.da.length = 16) := by
  obtain ⟨_, h | h | h | h | h⟩ := h
  · exact ⟨h.2.1.1, h.2.1.2, h.2.2.1.2, .inl h.1, fun e => by rw [h.1] at e; cases e⟩
  · exact ⟨h.2.1.1, h.2.1.2, h.2.2.1.2, .inr h.1, fun _ => h.2.2.2.1⟩
  · have := h.2.2.1.1; omega
  · have := h.2.2.1.1; omega
  · exact absurd h.1 hk
theorem may_seal {x : Wl} (h : May x) (hk : x.kd = 5) : Nxt x.nx := by
  obtain ⟨_, h | h | h | h | h⟩ := h
  · omega
  · omega
  · omega
  · omega
  · exact h.2.2.2.2
theorem Va.ok.put {v : Va} (h : v.ok) (i : Nat) {l : List UInt8} (hl : l.length = 16) : (v.put i l).ok :=
  ⟨h.gr, h.ep, fun j hj => by show (if j = i then l else v.bl j).length = 16; split; exact hl; exact h.bl j hj, h.cl, h.sea⟩
theorem Va.ok.who {v : Va} (h : v.ok) (i : Nat) {c : C16} (hc : (c.da.length = 0 ∨ c.da.length = 16) ∧ 0 ≤ c.st ∧ c.st ≤ 9007199254740991) : (v.who i c).ok :=
  ⟨h.gr, h.ep, h.bl, fun j hj => by
    show ((if j = i then c else v.cl j).da.length = 0 ∨ (if j = i then c else v.cl j).da.length = 16) ∧ 0 ≤ (if j = i then c else v.cl j).st ∧ (if j = i then c else v.cl j).st ≤ 9007199254740991
    split
    · exact hc
    · exact h.cl j hj, h.sea⟩
theorem turnS_ok {v : Va} (h : v.ok) : (turnS v).ok := by
  unfold turnS
  split
  · rename_i e
    unfold turnE at e
    split at e
    · cases e
    · split at e
      · cases e
      · exact ⟨h.gr, ⟨by show 0 ≤ v.ep + 1; have := h.ep; omega, by show v.ep + 1 ≤ 1048576; have := h.ep; omega⟩, h.bl, h.cl, .inl rfl⟩
  · exact h
theorem doS_ok {v : Va} (h : v.ok) (x : Wl) : (doS v x).1.ok := by
  unfold doS
  split
  · exact h
  · rename_i e
    have e1 : May x ∧ x.gr = v.gr := by
      have e := (Bool.not_eq_false _).mp e
      unfold lookB at e
      simpa using e
    split
    · rename_i hk
      unfold endS
      split
      · exact h
      · split
        · exact h
        · exact ⟨h.gr, h.ep, h.bl, h.cl, .inr (may_seal e1.1 hk)⟩
    · rename_i hk
      obtain ⟨c1, c2, c3, c4, c5⟩ := may_client e1.1 hk (by have := h.gr; omega)
      split
      · exact h
      · unfold srvS
        split
        · exact h
        · split
          · rename_i h2
            exact (h.put _ (c5 h2)).who _ ⟨.inl rfl, by show 0 ≤ x.sp; omega, by show x.sp ≤ _; omega⟩
          · exact h.who _ ⟨.inr (h.bl _ (by unfold bN; omega)), by show 0 ≤ x.sp; omega, by show x.sp ≤ _; omega⟩

/-! ### In memory -/
def inA (A : Option Addr) (b : Nat) : Prop := ∃ a : Addr, A = some a ∧ a.block = b
/-- Bytes that a slice shows, in blocks of K. -/
structure ByV (w : World) (K : Nat → Prop) (A : Option Addr) (n c : Nat) (l : List UInt8) : Prop where
  len : l.length = n
  cap : n ≤ c
  max : c ≤ maxLen
  bs : Bs w A l
  own : ∀ b, inA A b → K b
structure InV (w : World) (K : Nat → Prop) (A : Option Addr) (n c : Nat) (l : List Int) : Prop where
  arg : ArgI w A n c l
  own : ∀ b, inA A b → K b
/-- A vault at the block g, in the blocks U; bk: its book. -/
structure VaIn (w : World) (U : Nat → Prop) (g : Nat) (bk : Value) (v : Va) (cs : List Value) : Prop where
  ok : v.ok
  blk : Blk w g 83 cs
  len : cs.length = 140
  c0 : cs[0]? = some bk
  c1 : cs[1]? = some (.int .i64 v.gr)
  c2 : cs[2]? = some (.int .i64 v.ep)
  bl : ∀ i, i < 8 → (cs.drop (3 + 16 * i)).take 16 = cbs (v.bl i)
  cl : ∀ i, i < 4 → cs[131 + 2 * i]? = some (.int .i64 (v.cl i).st) ∧ ∃ A n c, cs[132 + 2 * i]? = some (.slice A n c) ∧ ByV w (fun b => U b ∧ b ≠ g) A n c (v.cl i).da
  sl : ∃ A n c, cs[139]? = some (.slice A n c) ∧ InV w (fun b => U b ∧ b ≠ g) A n c v.sea
  u : U g
  lt : ∀ i, U i → i < w.heap.size
def VaAt (w : World) (U : Nat → Prop) (g : Nat) (bk : Value) (v : Va) : Prop := ∃ cs, VaIn w U g bk v cs
theorem bs_out {w w' : World} {S : Nat → Prop} {A : Option Addr} {l : List UInt8} (h : Bs w A l) (ho : Out S w w') (hS : ∀ b, inA A b → ¬ S b) : Bs w' A l := by
  refine ⟨h.1, fun hp => ?_⟩
  obtain ⟨b, off, e, hb, hc⟩ := h.2 hp
  exact ⟨b, off, e, Nat.lt_of_lt_of_le hb ho.size, fun j u hu => (World.cell?_of_block (ho.block b hb (hS b ⟨_, e, rfl⟩))).trans (hc j u hu)⟩
theorem ByV.out {w w' : World} {S K : Nat → Prop} {A : Option Addr} {n c : Nat} {l : List UInt8} (h : ByV w K A n c l) (ho : Out S w w') (hS : ∀ b, K b → ¬ S b) : ByV w' K A n c l :=
  ⟨h.len, h.cap, h.max, bs_out h.bs ho fun b hb => hS b (h.own b hb), h.own⟩
theorem argI_out {w w' : World} {S : Nat → Prop} {A : Option Addr} {n c : Nat} {l : List Int} (h : ArgI w A n c l) (ho : Out S w w') (hS : ∀ b, inA A b → ¬ S b) : ArgI w' A n c l := by
  obtain ⟨h1, h2, h3, h4, h5⟩ := h
  refine ⟨h1, h2, h3, ⟨h4.1, fun hp => ?_⟩, h5⟩
  obtain ⟨b, off, e, hb, hc⟩ := h4.2 hp
  exact ⟨b, off, e, Nat.lt_of_lt_of_le hb ho.size, fun j u hu => (World.cell?_of_block (ho.block b hb (hS b ⟨_, e, rfl⟩))).trans (hc j u hu)⟩
theorem InV.out {w w' : World} {S K : Nat → Prop} {A : Option Addr} {n c : Nat} {l : List Int} (h : InV w K A n c l) (ho : Out S w w') (hS : ∀ b, K b → ¬ S b) : InV w' K A n c l :=
  ⟨argI_out h.arg ho fun b hb => hS b (h.own b hb), h.own⟩
section
variable {w w' : World} {U U' S : Nat → Prop} {g : Nat} {bk : Value} {v : Va} {cs : List Value}
theorem VaIn.out (h : VaIn w U g bk v cs) (ho : Out S w w') (hS : ∀ i, U i → ¬ S i) : VaIn w' U g bk v cs :=
  ⟨h.ok, ho.blk h.blk (hS g h.u), h.len, h.c0, h.c1, h.c2, h.bl, fun i hi => let ⟨e1, A, n, c, e2, e3⟩ := h.cl i hi; ⟨e1, A, n, c, e2, e3.out ho fun b hb => hS b hb.1⟩, let ⟨A, n, c, e2, e3⟩ := h.sl; ⟨A, n, c, e2, e3.out ho fun b hb => hS b hb.1⟩, h.u, fun i hi => Nat.lt_of_lt_of_le (h.lt i hi) ho.size⟩
theorem VaIn.below (h : VaIn w U g bk v cs) (hb : Below w.heap.size w w') : VaIn w' U g bk v cs :=
  h.out (S := fun i => w.heap.size ≤ i) (Out.ofBelow _ hb) fun i hi => by have := h.lt i hi; omega
theorem VaAt.out (h : VaAt w U g bk v) (ho : Out S w w') (hS : ∀ i, U i → ¬ S i) : VaAt w' U g bk v := let ⟨cs, h⟩ := h; ⟨cs, h.out ho hS⟩
theorem VaAt.below (h : VaAt w U g bk v) (hb : Below w.heap.size w w') : VaAt w' U g bk v := let ⟨cs, h⟩ := h; ⟨cs, h.below hb⟩
theorem VaAt.lt (h : VaAt w U g bk v) : ∀ i, U i → i < w.heap.size := let ⟨cs, h⟩ := h; h.lt
theorem VaAt.ok (h : VaAt w U g bk v) : v.ok := let ⟨cs, h⟩ := h; h.ok
theorem VaIn.wide (h : VaIn w U g bk v cs) (hU : ∀ i, U i → U' i) (hlt : ∀ i, U' i → i < w.heap.size) : VaIn w U' g bk v cs :=
  ⟨h.ok, h.blk, h.len, h.c0, h.c1, h.c2, h.bl, fun i hi => let ⟨e1, A, n, c, e2, e3⟩ := h.cl i hi; ⟨e1, A, n, c, e2, ⟨e3.len, e3.cap, e3.max, e3.bs, fun b hb => ⟨hU b (e3.own b hb).1, (e3.own b hb).2⟩⟩⟩, let ⟨A, n, c, e2, e3⟩ := h.sl; ⟨A, n, c, e2, e3.arg, fun b hb => ⟨hU b (e3.own b hb).1, (e3.own b hb).2⟩⟩, hU g h.u, hlt⟩
/-- A block's bytes, where they lie. -/
theorem VaIn.row (h : VaIn w U g bk v cs) {i : Nat} (hi : i < 8) : w.rangeAt g (3 + 16 * i) (cbs (v.bl i)) := fun j u hu => by
  refine h.blk.cell ?_
  rw [← h.bl i hi, List.getElem?_take] at hu
  split at hu
  · rw [List.getElem?_drop] at hu; exact hu
  · cases hu
theorem VaIn.bs (h : VaIn w U g bk v cs) {i : Nat} (hi : i < 8) : Bs w (some ⟨g, 3 + 16 * i, none⟩) (v.bl i) :=
  ⟨by rw [cbs_length, Nat.mul_one], fun _ => ⟨g, _, rfl, h.blk.lt, h.row hi⟩⟩
end
end Go.Proofs.YtfaeechidjpjbaaGreat

namespace Go.Proofs.YtfaeechidjpjbaaGreat
open Go.RowKit
set_option linter.unusedVariables false
set_option linter.unusedSimpArgs false
/-- A wish of the laws, at a vault's epoch or at the one ahead of it. -/
structure WishV (ep sp : Int) (x : Wl) : Prop where
  may : May x
  gr : x.gr = 1
  ep : x.ep = ep ∨ (0 < ep ∧ x.ep = ep - 1)
  kd : (x.kd = 5 ∧ x.nx = [1, 2, 3, 4]) ∨ (x.kd = 1 ∧ x.sp = sp) ∨ (x.kd = 2 ∧ x.sp = sp ∧ ∃ b, x.da = List.replicate 16 b)
theorem WishV.look {ep sp : Int} {x : Wl} {v : Va} (h : WishV ep sp x) (hg : v.gr = 1) : lookB v x = true := by
  unfold lookB; simp [h.may, h.gr, hg]
theorem may_blk {x : Wl} (h : May x) (hk : x.kd = 1 ∨ x.kd = 2) : (31 ≤ x.cl ∧ x.cl ≤ 34) ∧ (0 ≤ x.bl ∧ x.bl ≤ 7) ∧ 1 ≤ x.sp := by
  obtain ⟨_, h | h | h | h | h⟩ := h
  · exact ⟨h.2.1.1, h.2.2.1.2, h.2.1.2.1⟩
  · exact ⟨h.2.1.1, h.2.2.1.2, h.2.1.2.1⟩
  · rcases hk with e | e <;> (have := h.1; omega)
  · rcases hk with e | e <;> (have := h.1; omega)
  · rcases hk with e | e <;> (have := h.1; omega)
theorem cN_lt {x : Wl} (h : 31 ≤ x.cl ∧ x.cl ≤ 34) : cN x < 4 := by unfold cN; omega
theorem bN_lt {x : Wl} (h : 0 ≤ x.bl ∧ x.bl ≤ 7) : bN x < 8 := by unfold bN; omega
/-- No client's last stamp is above that number. -/
def StL (v : Va) (i : Int) : Prop := ∀ j, j < 4 → (v.cl j).st ≤ i
theorem StL.mono {v : Va} {i k : Int} (h : StL v i) (hk : i ≤ k) : StL v k := fun j hj => Int.le_trans (h j hj) hk
theorem agS_none {v : Va} {x : Wl} {i sp : Int} (h : StL v i) (hc : 31 ≤ x.cl ∧ x.cl ≤ 34) (hs : x.sp = sp) (hi : i < sp) : agS v x = none := by
  have := h (cN x) (cN_lt hc)
  unfold agS
  rw [if_neg (by omega), if_neg (by omega)]
def upd (B : Nat → UInt8) (k : Nat) (b : UInt8) : Nat → UInt8 := fun j => if j = k then b else B j
/-- The blocks are those bytes, the stamps low. -/
structure RdS (v : Va) (i : Int) (B : Nat → UInt8) : Prop where
  gr : v.gr = 1
  bl : ∀ j, j < 8 → v.bl j = List.replicate 16 (B j)
  st : StL v i
theorem RdS.new : RdS (newV 1) 0 (fun _ => 0) := ⟨rfl, fun j hj => rfl, fun j hj => Int.le_refl 0⟩
theorem RdS.turn {v : Va} {i : Int} {B : Nat → UInt8} (h : RdS v i B) : RdS (turnS v) i B := by
  unfold turnS
  split
  · exact ⟨h.gr, h.bl, h.st⟩
  · exact h
theorem RdS.mono {v : Va} {i k : Int} {B : Nat → UInt8} (h : RdS v i B) (hk : i ≤ k) : RdS v k B := ⟨h.gr, h.bl, h.st.mono hk⟩
/-- What each wish does. -/
theorem do_cases {v : Va} {x : Wl} {i sp : Int} (hg : v.gr = 1) (hst : StL v i) (h : WishV v.ep sp x) (hi : i < sp) :
    (x.kd = 5 ∧ doS v x = endS v x) ∨ (x.kd ≠ 5 ∧ ∃ a, refS v x = some a ∧ doS v x = (v, a)) ∨
    (x.kd = 2 ∧ refS v x = none ∧ doS v x = ((v.put (bN x) x.da).who (cN x) ⟨x.sp, []⟩, an0)) ∨
    (x.kd = 1 ∧ refS v x = none ∧ doS v x = (v.who (cN x) ⟨x.sp, v.bl (bN x)⟩, ⟨0, v.bl (bN x), 0⟩)) := by
  have hl := h.look hg
  unfold doS
  rw [hl, if_neg (by decide)]
  rcases h.kd with ⟨hk, hn⟩ | ⟨hk, hs⟩ | ⟨hk, hs, b, hb⟩
  · exact .inl ⟨hk, by rw [if_pos hk]⟩
  · have hm := may_blk h.may (.inl hk)
    rw [if_neg (by omega), agS_none hst hm.1 hs hi]
    right
    unfold srvS
    cases hr : refS v x with
    | some a => exact .inl ⟨by omega, a, rfl, rfl⟩
    | none => exact .inr (.inr ⟨hk, rfl, by simp only; rw [if_neg (by omega)]⟩)
  · have hm := may_blk h.may (.inr hk)
    rw [if_neg (by omega), agS_none hst hm.1 hs hi]
    right
    unfold srvS
    cases hr : refS v x with
    | some a => exact .inl ⟨by omega, a, rfl, rfl⟩
    | none => exact .inr (.inl ⟨hk, rfl, by simp only; rw [if_pos hk]⟩)
theorem refS_er {v : Va} {x : Wl} {a : An} (h : refS v x = some a) : a.er = 171 ∧ a.da = [] := by
  unfold refS at h
  split at h
  · cases h; exact ⟨rfl, rfl⟩
  · split at h
    · cases h; exact ⟨rfl, rfl⟩
    · cases h
theorem endS_keep (v : Va) (x : Wl) : (endS v x).1.gr = v.gr ∧ (endS v x).1.bl = v.bl ∧ (endS v x).1.cl = v.cl ∧ (endS v x).1.ep = v.ep := by
  unfold endS
  split
  · exact ⟨rfl, rfl, rfl, rfl⟩
  · split <;> exact ⟨rfl, rfl, rfl, rfl⟩
theorem StL.who {v : Va} {i sp : Int} (h : StL v i) (hi : i ≤ sp) (k : Nat) (d : List UInt8) : StL (v.who k ⟨sp, d⟩) sp := fun j hj => by
  show (if j = k then (⟨sp, d⟩ : C16) else v.cl j).st ≤ sp
  split
  · exact Int.le_refl _
  · exact Int.le_trans (h j hj) hi
theorem RdS.step {v : Va} {x : Wl} {i sp : Int} {B : Nat → UInt8} (h : RdS v i B) (hx : WishV v.ep sp x) (hi : i < sp) :
    (x.kd = 2 → (doS v x).2.er = 0 → ∃ b, x.da = List.replicate 16 b ∧ RdS (doS v x).1 sp (upd B (bN x) b)) ∧
    ((x.kd ≠ 2 ∨ (doS v x).2.er ≠ 0) → RdS (doS v x).1 sp B) ∧
    (x.kd = 1 → (doS v x).2.er = 0 → (doS v x).2.da = List.replicate 16 (B (bN x))) := by
  rcases do_cases h.gr h.st hx hi with ⟨hk, e⟩ | ⟨hk, a, hr, e⟩ | ⟨hk, hr, e⟩ | ⟨hk, hr, e⟩
  · refine ⟨fun e2 => by omega, fun _ => ?_, fun e2 => by omega⟩
    have k := endS_keep v x
    rw [e]
    exact ⟨k.1.trans h.gr, fun j hj => by rw [k.2.1]; exact h.bl j hj, fun j hj => by rw [k.2.2.1]; exact h.st.mono (Int.le_of_lt hi) j hj⟩
  · have ha := (refS_er hr).1
    rw [e]
    exact ⟨fun _ e2 => by simp only at e2; omega, fun _ => h.mono (Int.le_of_lt hi), fun _ e2 => by simp only at e2; omega⟩
  · have hb : ∃ b, x.da = List.replicate 16 b := by
      rcases hx.kd with ⟨e, _⟩ | ⟨e, _⟩ | ⟨_, _, h⟩
      · omega
      · omega
      · exact h
    have hs : x.sp = sp := by
      rcases hx.kd with ⟨e, _⟩ | ⟨e, _⟩ | ⟨_, h, _⟩
      · omega
      · omega
      · exact h
    rw [e]
    refine ⟨fun _ _ => ?_, fun e2 => ?_, fun e2 => by omega⟩
    · obtain ⟨b, hb⟩ := hb
      refine ⟨b, hb, h.gr, fun j hj => ?_, ?_⟩
      · show (if j = bN x then x.da else v.bl j) = List.replicate 16 (if j = bN x then b else B j)
        split
        · exact hb
        · exact h.bl j hj
      · simp only
        rw [hs]
        exact StL.who (v := v.put (bN x) x.da) h.st (Int.le_of_lt hi) _ _
    · rcases e2 with e2 | e2
      · exact absurd hk e2
      · exact absurd rfl e2
  · have hs : x.sp = sp := by
      rcases hx.kd with ⟨e, _⟩ | ⟨_, h⟩ | ⟨e, _⟩
      · omega
      · exact h
      · omega
    have hm := may_blk hx.may (.inl hk)
    rw [e]
    refine ⟨fun e2 => by omega, fun _ => ?_, fun _ _ => h.bl _ (bN_lt hm.2.1)⟩
    exact ⟨h.gr, h.bl, by simp only; rw [hs]; exact h.st.who (Int.le_of_lt hi) _ _⟩
/-! ### Once -/
theorem who_at (v : Va) (k : Nat) (c : C16) : (v.who k c).cl k = c := by show (if k = k then c else v.cl k) = c; rw [if_pos rfl]
/-- A wish that was done: again, or any one of that client with that stamp, has the same answer, and changes nothing. -/
theorem once {v : Va} {x : Wl} {i sp : Int} (hg : v.gr = 1) (hst : StL v i) (hx : WishV v.ep sp x) (hi : i < sp) (hk : x.kd ≠ 5) (he : (doS v x).2.er = 0) :
    (doS v x).2.ep = 0 ∧ (∀ y : Wl, y.cl = x.cl → y.sp = x.sp → agS (doS v x).1 y = some (doS v x).2) := by
  have key : ∃ d, (doS v x).2 = ⟨0, d, 0⟩ ∧ (doS v x).1.cl (cN x) = ⟨x.sp, d⟩ := by
    rcases do_cases hg hst hx hi with ⟨hk2, e⟩ | ⟨_, a, hr, e⟩ | ⟨hk2, hr, e⟩ | ⟨hk2, hr, e⟩
    · exact absurd hk2 hk
    · rw [e] at he
      have := (refS_er hr).1
      simp only at he
      omega
    · rw [e]
      exact ⟨[], rfl, who_at (v.put (bN x) x.da) _ _⟩
    · rw [e]
      exact ⟨v.bl (bN x), rfl, who_at v _ _⟩
  obtain ⟨d, e1, e2⟩ := key
  rw [e1]
  refine ⟨rfl, fun y h1 h2 => ?_⟩
  have hc : cN y = cN x := by unfold cN; rw [h1]
  unfold agS
  rw [hc, e2, if_pos h2]
theorem doS_again {v : Va} {y : Wl} {a : An} (hl : lookB v y = true) (hk : y.kd ≠ 5) (ha : agS v y = some a) : doS v y = (v, a) := by
  unfold doS
  rw [hl, if_neg (by decide), if_neg hk, ha]
theorem doS_keep {v : Va} {x : Wl} : (doS v x).1.gr = v.gr ∧ (doS v x).1.ep = v.ep := by
  unfold doS
  split
  · exact ⟨rfl, rfl⟩
  · split
    · exact ⟨(endS_keep v x).1, (endS_keep v x).2.2.2⟩
    · split
      · exact ⟨rfl, rfl⟩
      · unfold srvS
        split
        · exact ⟨rfl, rfl⟩
        · split <;> exact ⟨rfl, rfl⟩
theorem StL.doS {v : Va} {x : Wl} {i sp : Int} (hg : v.gr = 1) (hst : StL v i) (hx : WishV v.ep sp x) (hi : i < sp) : StL (doS v x).1 sp := by
  have hs : x.kd ≠ 5 → x.sp = sp := fun hk => by
    rcases hx.kd with ⟨e, _⟩ | ⟨_, h⟩ | ⟨_, h, _⟩
    · exact absurd e hk
    · exact h
    · exact h
  rcases do_cases hg hst hx hi with ⟨hk2, e⟩ | ⟨_, a, hr, e⟩ | ⟨hk2, hr, e⟩ | ⟨hk2, hr, e⟩
  · rw [e]
    intro j hj
    rw [(endS_keep v x).2.2.1]
    exact hst.mono (Int.le_of_lt hi) j hj
  · rw [e]; exact hst.mono (Int.le_of_lt hi)
  · rw [e]; simp only; rw [hs (by omega)]; exact StL.who (v := v.put (bN x) x.da) hst (Int.le_of_lt hi) _ _
  · rw [e]; simp only; rw [hs (by omega)]; exact hst.who (Int.le_of_lt hi) _ _
/-! ### Sealed -/
theorem turnE_open {v : Va} (h : v.sea = []) : turnE v = 171 ∧ turnS v = v := by
  have e : turnE v = 171 := by unfold turnE; rw [if_pos h]
  exact ⟨e, by unfold turnS; rw [if_neg (by rw [e]; decide)]⟩
theorem turnE_sealed {v : Va} (h : v.sea ≠ []) (he : v.ep < 1048576) : turnE v = 0 ∧ turnS v = { v with ep := v.ep + 1, sea := [] } := by
  have e : turnE v = 0 := by unfold turnE; rw [if_neg h, if_neg (by omega)]
  exact ⟨e, by unfold turnS; rw [if_pos e]⟩
theorem sealed_ref {v : Va} {x : Wl} (h : v.sea ≠ []) (he : x.ep = v.ep) : refS v x = some ⟨171, [], v.ep + 1⟩ := by
  unfold refS
  rw [if_neg (by omega), if_pos h]
theorem sealed_do {v : Va} {x : Wl} {i sp : Int} (hg : v.gr = 1) (hst : StL v i) (hx : WishV v.ep sp x) (hi : i < sp) (h : v.sea ≠ []) (he : v.ep = 0) : doS v x = (v, ⟨171, [], v.ep + 1⟩) := by
  have hep : x.ep = v.ep := by
    rcases hx.ep with e | e
    · exact e
    · omega
  have hr := sealed_ref h hep
  rcases do_cases hg hst hx hi with ⟨hk2, e⟩ | ⟨_, a, hr2, e⟩ | ⟨hk2, hr2, e⟩ | ⟨hk2, hr2, e⟩
  · rw [e]; unfold endS; rw [hr]
  · rw [hr] at hr2; cases hr2; exact e
  · rw [hr] at hr2; cases hr2
  · rw [hr] at hr2; cases hr2
end Go.Proofs.YtfaeechidjpjbaaGreat

namespace Go.Proofs.YtfaeechidjpjbaaGreat
open Go.RowKit
set_option linter.unusedVariables false
set_option linter.unusedSimpArgs false

section
variable {w w' : World} {U S : Nat → Prop} {g : Nat} {bk : Value} {v : Va} {cs : List Value}
theorem vnone_in (h : VaIn w U g bk v cs) : Calls Tryz.prog 55 #[.pointer (some ⟨g, 0, none⟩)] w fun e w' => e = .returned (.bool false) ∧ w' = w := by
  have c1 := h.blk.cell h.c1
  have hg : (v.gr == 0) = false := by have := h.ok.gr; simp; omega
  clear h
  go_enter Tryz.func55, Tryz.ntmps55
  go_wp2
  go_ret
  exact ⟨rfl, rfl⟩
theorem vsealed_in (h : VaIn w U g bk v cs) : Calls Tryz.prog 60 #[.pointer (some ⟨g, 0, none⟩)] w fun e w' => e = .returned (.bool (decide (v.sea ≠ []))) ∧ w' = w := by
  obtain ⟨A, n, c, e1, e2⟩ := h.sl
  have c9 := h.blk.cell e1
  have hl := e2.arg.1
  clear h
  have e : decide (v.sea ≠ []) = decide ((n : Int) > 0) := by
    rw [← hl]
    cases v.sea with
    | nil => simp
    | cons a l => simp
  rw [e]
  go_enter Tryz.func60, Tryz.ntmps60
  go_wp2
  go_ret
  exact ⟨by simp, rfl⟩
theorem epoch_in (h : VaIn w U g bk v cs) : Calls Tryz.prog 33 #[.pointer (some ⟨g, 0, none⟩)] w fun e w' => e = .returned (.int .i64 v.ep) ∧ w' = w := by
  have Hn := Lib.hid (vnone_in h)
  have c2 := h.blk.cell h.c2
  clear h
  go_enter Tryz.func33, Tryz.ntmps33
  go_wp2_with (go_at_call 55; refine Hn.out.mono ?_; rintro e w' ⟨rfl, hww⟩; have hww2 := hww.symm; subst hww2; clear hww)
  go_ret
  exact ⟨rfl, rfl⟩
theorem group_in (h : VaIn w U g bk v cs) : Calls Tryz.prog 41 #[.pointer (some ⟨g, 0, none⟩)] w fun e w' => e = .returned (.int .i64 v.gr) ∧ w' = w := by
  have Hn := Lib.hid (vnone_in h)
  have c1 := h.blk.cell h.c1
  clear h
  go_enter Tryz.func41, Tryz.ntmps41
  go_wp2_with (go_at_call 55; refine Hn.out.mono ?_; rintro e w' ⟨rfl, hww⟩; have hww2 := hww.symm; subst hww2; clear hww)
  go_ret
  exact ⟨rfl, rfl⟩
section
variable {w : World} {g : Nat} {t : TypeId} {a b c d : Value}
theorem Blk.set4 (h : Blk w g t [a, b, c, d]) (a' b' c' d' : Value) : Blk ((((w.setCell ⟨g, 0, none⟩ a').setCell ⟨g, 1, none⟩ b').setCell ⟨g, 2, none⟩ c').setCell ⟨g, 3, none⟩ d') g t [a', b', c', d'] :=
  (((h.set_ 0 a').set_ 1 b').set_ 2 c').set_ 3 d'
theorem below_set4 {B : Nat} {w0 : World} (h : Below B w0 w) (hg : B ≤ g) (a' b' c' d' : Value) : Below B w0 ((((w.setCell ⟨g, 0, none⟩ a').setCell ⟨g, 1, none⟩ b').setCell ⟨g, 2, none⟩ c').setCell ⟨g, 3, none⟩ d') :=
  (((h.setCell hg _).setCell hg _).setCell hg _).setCell hg _
end
theorem ans_size : (Tryz.prog.info? 48).map (·.size) = some 4 := by kernel_rfl
/-- The results: an answer in its cell, and a word. -/
theorem res_at {fn : Func} {p q : Tmp} (h : fn.results = #[.cell p 48, .tmp q]) {tmps : Array Value} {w : World} {g : Nat} {a b c d : Value}
    (hg : Blk w g 48 [a, b, c, d]) (hp : tmps.getD p undef = .pointer (some ⟨g, 0, none⟩)) :
    (results fn tmps).run Tryz.prog w = .ok (.tuple #[.agg #[a, b, c, d], tmps.getD q undef]) w :=
  results_row_tmp3 h tmps w g 48 #[a, b, c, d] (0, 0) _ hp hg Tryz.underlying48 rfl ans_size
theorem res_a {fn : Func} {p : Tmp} (h : fn.results = #[.cell p 48]) {tmps : Array Value} {w : World} {g : Nat} {a b c d : Value}
    (hg : Blk w g 48 [a, b, c, d]) (hp : tmps.getD p undef = .pointer (some ⟨g, 0, none⟩)) :
    (results fn tmps).run Tryz.prog w = .ok (.agg #[a, b, c, d]) w := by
  have hp' : tmps[p]?.getD undef = .pointer (some ⟨g, 0, none⟩) := by simpa using hp
  simp [results, h, hp', asAddr, run_loadVar_row w g 48 48 #[a, b, c, d] (0, 0) _ hg Tryz.underlying48 rfl ans_size]
/-- An answer without data. -/
def anC (a : An) : List Value := [.int .i64 a.er, .slice none 0 0, .int .i64 a.ep, .slice none 0 0]
set_option maxRecDepth 100000 in
set_option maxHeartbeats 3200000 in
theorem refuse_in (h : VaIn w U g bk v cs) {x : Wl} {Dx : Option Addr} {ndx cdx : Nat} {Nx : Option Addr} {nnx cnx : Nat} (hx : ArgW w x Dx ndx cdx Nx nnx cnx) :
    Calls Tryz.prog 84 #[.pointer (some ⟨g, 0, none⟩), .agg #[.int .i64 x.cl, .int .i64 x.sp, .int .i64 x.gr, .int .i64 x.ep, .int .i64 x.kd, .int .i64 x.bl, .slice Dx ndx cdx, .int .i64 x.od, .int .i64 x.nw, .slice Nx nnx cnx]] w fun e w' => e = .returned (.tuple #[.agg (anC ((refS v x).getD an0)).toArray, .bool (refS v x).isSome]) ∧ Below w.heap.size w w' := by
  have hbx : Below w.heap.size w (w.alloc (.cells #[.int .i64 x.cl, .int .i64 x.sp, .int .i64 x.gr, .int .i64 x.ep, .int .i64 x.kd, .int .i64 x.bl, .slice Dx ndx cdx, .int .i64 x.od, .int .i64 x.nw, .slice Nx nnx cnx] 45)) := (Below.refl _ _).alloc (Nat.le_refl _) _
  have X1 : Blk ((w.alloc (.cells #[.int .i64 x.cl, .int .i64 x.sp, .int .i64 x.gr, .int .i64 x.ep, .int .i64 x.kd, .int .i64 x.bl, .slice Dx ndx cdx, .int .i64 x.od, .int .i64 x.nw, .slice Nx nnx cnx] 45)).alloc (.cells #[.int .i64 0, .slice none 0 0, .int .i64 0, .slice none 0 0] 48)) w.heap.size 45 [.int .i64 x.cl, .int .i64 x.sp, .int .i64 x.gr, .int .i64 x.ep, .int .i64 x.kd, .int .i64 x.bl, .slice Dx ndx cdx, .int .i64 x.od, .int .i64 x.nw, .slice Nx nnx cnx] := Blk.old (Blk.new rfl rfl) _
  have A1 : Blk ((w.alloc (.cells #[.int .i64 x.cl, .int .i64 x.sp, .int .i64 x.gr, .int .i64 x.ep, .int .i64 x.kd, .int .i64 x.bl, .slice Dx ndx cdx, .int .i64 x.od, .int .i64 x.nw, .slice Nx nnx cnx] 45)).alloc (.cells #[.int .i64 0, .slice none 0 0, .int .i64 0, .slice none 0 0] 48)) (w.heap.size + 1) 48 [.int .i64 0, .slice none 0 0, .int .i64 0, .slice none 0 0] := Blk.new rfl (by simp)
  have hb2 : Below w.heap.size w ((w.alloc (.cells #[.int .i64 x.cl, .int .i64 x.sp, .int .i64 x.gr, .int .i64 x.ep, .int .i64 x.kd, .int .i64 x.bl, .slice Dx ndx cdx, .int .i64 x.od, .int .i64 x.nw, .slice Nx nnx cnx] 45)).alloc (.cells #[.int .i64 0, .slice none 0 0, .int .i64 0, .slice none 0 0] 48)) := hbx.alloc (by simp) _
  have h1 := h.below hb2
  have q3 := X1.cell (i := 3) rfl
  have c2 := h1.blk.cell h1.c2
  have Hs := Lib.hid (fun W (hb : Below w.heap.size w W) => vsealed_in (h.below hb))
  have H := Lib.hid (And.intro hb2 A1)
  have hep := h.ok.ep
  have mixed : Tryz.prog.follows Departure.mixedOrders = true := by kernel_rfl
  clear h h1 X1 A1 hb2 hbx hx
  by_cases he : x.ep = v.ep
  · have he' : (x.ep != v.ep) = false := by simp [he]
    by_cases hs : v.sea = []
    · have e1 : refS v x = none := by unfold refS; rw [if_neg (by simp [he]), if_neg (by simp [hs])]
      have hs' : decide (v.sea ≠ []) = false := by simp [hs]
      rw [hs'] at Hs
      rw [e1]
      have he0 := Lib.hid he
      clear he
      go_enter Tryz.func84, Tryz.ntmps84
      go_upto_region 1 with fail
      go_quiet (fail)
      go_wp2_with (go_at_call 60; refine (Hs.out _ (below_drewN H.out.1 _)).mono ?_; rintro e w' ⟨rfl, hww⟩; have hww2 := hww.symm; subst hww2; clear hww)
      refine bodyPost_ret (res_at rfl ((H.out.2.drewN_ _).set4 _ _ _ _) rfl) rfl ?_
      exact ⟨rfl, below_set4 (below_drewN H.out.1 _) (by omega) _ _ _ _⟩
    · have e1 : refS v x = some ⟨171, [], v.ep + 1⟩ := by unfold refS; rw [if_neg (by simp [he]), if_pos hs]
      have hs' : decide (v.sea ≠ []) = true := by simp [hs]
      have hw : IntKind.i64.wrap (v.ep + 1) = v.ep + 1 := by rw [IntWalk.i64_in _ (by omega)]
      rw [hs'] at Hs
      rw [e1]
      have he0 := Lib.hid he
      clear he
      go_enter Tryz.func84, Tryz.ntmps84
      go_upto_region 1 with fail
      go_quiet (fail)
      go_wp2_with (go_at_call 60; refine (Hs.out _ (below_drewN H.out.1 _)).mono ?_; rintro e w' ⟨rfl, hww⟩; have hww2 := hww.symm; subst hww2; clear hww)
      refine bodyPost_ret (res_at rfl ((H.out.2.drewN_ _).set4 _ _ _ _) rfl) rfl ?_
      exact ⟨rfl, below_set4 (below_drewN H.out.1 _) (by omega) _ _ _ _⟩
  · have e1 : refS v x = some ⟨171, [], v.ep⟩ := by unfold refS; rw [if_pos he]
    have he' : (x.ep != v.ep) = true := by simp [he]
    rw [e1]
    have he0 := Lib.hid he
    clear he
    go_enter Tryz.func84, Tryz.ntmps84
    go_upto_region 1 with fail
    go_quiet (fail)
    go_wp2
    refine bodyPost_ret (res_at rfl ((H.out.2.drewN_ _).set4 _ _ _ _) rfl) rfl ?_
    exact ⟨rfl, below_set4 (below_drewN H.out.1 _) (by omega) _ _ _ _⟩
end
end Go.Proofs.YtfaeechidjpjbaaGreat

namespace Go.Proofs.YtfaeechidjpjbaaGreat
open Go.RowKit
set_option linter.unusedVariables false
set_option linter.unusedSimpArgs false

/-- An answer that was made since the world w. -/
def AnsV (w : World) (a : An) (v : Value) (w' : World) : Prop := ∃ d, v = .agg #[.int .i64 a.er, d, .int .i64 a.ep, .slice none 0 0] ∧ NewB w a.da d w'
theorem AnsV.plain {w w' : World} {a : An} (h : a.da = []) (hb : Below w.heap.size w w') : AnsV w a (.agg (anC a).toArray) w' :=
  ⟨_, rfl, by rw [h]; exact World.ownsRow_nil _ _ _ _, hb⟩
theorem blk_drew {w : World} {g : Nat} {t : TypeId} {cs : List Value} (h : Blk w g t cs) : Blk w.drew g t cs := h
theorem mine_far {w w' : World} {base base' : Nat} {e : TypeId} {v : Value} {l : List UInt8} (h : Mine w base e v l) (hb : base' ≤ base) (hh : ∀ i, base ≤ i → w'.heap[i]? = w.heap[i]?) : Mine w' base' e v l := by
  obtain ⟨h1, h2 | ⟨g, cap, cur, h3, h4, h5, h6⟩⟩ := h
  · exact ⟨h1, .inl h2⟩
  · exact ⟨h1, .inr ⟨g, cap, cur, h3, Nat.le_trans hb h4, (hh g h4).trans h5, h6⟩⟩
theorem heap_set4 {w : World} {g i : Nat} (h : g ≠ i) (a b c d : Value) : ((((w.setCell ⟨g, 0, none⟩ a).setCell ⟨g, 1, none⟩ b).setCell ⟨g, 2, none⟩ c).setCell ⟨g, 3, none⟩ d).heap[i]? = w.heap[i]? := by
  rw [Below.heap_setCell _ _ _ i (by show i ≠ g; omega), Below.heap_setCell _ _ _ i (by show i ≠ g; omega), Below.heap_setCell _ _ _ i (by show i ≠ g; omega), Below.heap_setCell _ _ _ i (by show i ≠ g; omega)]
section
variable {w w' : World} {U S : Nat → Prop} {g : Nat} {bk : Value} {v : Va} {cs : List Value}
set_option maxRecDepth 100000 in
set_option maxHeartbeats 3200000 in
theorem again_in (h : VaIn w U g bk v cs) {x : Wl} {Dx : Option Addr} {ndx cdx : Nat} {Nx : Option Addr} {nnx cnx : Nat} (hx : ArgW w x Dx ndx cdx Nx nnx cnx) (hcl : 31 ≤ x.cl ∧ x.cl ≤ 34) :
    Calls Tryz.prog 58 #[.pointer (some ⟨g, 0, none⟩), .agg #[.int .i64 x.cl, .int .i64 x.sp, .int .i64 x.gr, .int .i64 x.ep, .int .i64 x.kd, .int .i64 x.bl, .slice Dx ndx cdx, .int .i64 x.od, .int .i64 x.nw, .slice Nx nnx cnx]] w fun e w' => ∃ u, e = .returned (.tuple #[u, .bool (agS v x).isSome]) ∧ AnsV w ((agS v x).getD an0) u w' := by
  have hbx : Below w.heap.size w (w.alloc (.cells #[.int .i64 x.cl, .int .i64 x.sp, .int .i64 x.gr, .int .i64 x.ep, .int .i64 x.kd, .int .i64 x.bl, .slice Dx ndx cdx, .int .i64 x.od, .int .i64 x.nw, .slice Nx nnx cnx] 45)) := (Below.refl _ _).alloc (Nat.le_refl _) _
  have X1 : Blk ((w.alloc (.cells #[.int .i64 x.cl, .int .i64 x.sp, .int .i64 x.gr, .int .i64 x.ep, .int .i64 x.kd, .int .i64 x.bl, .slice Dx ndx cdx, .int .i64 x.od, .int .i64 x.nw, .slice Nx nnx cnx] 45)).alloc (.cells #[.int .i64 0, .slice none 0 0, .int .i64 0, .slice none 0 0] 48)) w.heap.size 45 [.int .i64 x.cl, .int .i64 x.sp, .int .i64 x.gr, .int .i64 x.ep, .int .i64 x.kd, .int .i64 x.bl, .slice Dx ndx cdx, .int .i64 x.od, .int .i64 x.nw, .slice Nx nnx cnx] := Blk.old (Blk.new rfl rfl) _
  have A1 : Blk ((w.alloc (.cells #[.int .i64 x.cl, .int .i64 x.sp, .int .i64 x.gr, .int .i64 x.ep, .int .i64 x.kd, .int .i64 x.bl, .slice Dx ndx cdx, .int .i64 x.od, .int .i64 x.nw, .slice Nx nnx cnx] 45)).alloc (.cells #[.int .i64 0, .slice none 0 0, .int .i64 0, .slice none 0 0] 48)) (w.heap.size + 1) 48 [.int .i64 0, .slice none 0 0, .int .i64 0, .slice none 0 0] := Blk.new rfl (by simp)
  have hb2 : Below w.heap.size w ((w.alloc (.cells #[.int .i64 x.cl, .int .i64 x.sp, .int .i64 x.gr, .int .i64 x.ep, .int .i64 x.kd, .int .i64 x.bl, .slice Dx ndx cdx, .int .i64 x.od, .int .i64 x.nw, .slice Nx nnx cnx] 45)).alloc (.cells #[.int .i64 0, .slice none 0 0, .int .i64 0, .slice none 0 0] 48)) := hbx.alloc (by simp) _
  have h1 := h.below hb2
  have q0 := X1.cell (i := 0) rfl
  have q1 := X1.cell (i := 1) rfl
  have hn : cN x < 4 := by unfold cN; omega
  obtain ⟨d1, A, n, c, d2, d3⟩ := h1.cl (cN x) hn
  have r1 := h1.blk.cell d1
  have r2 := h1.blk.cell d2
  rw [show 131 + 2 * cN x = 131 + cN x * 2 by omega] at r1
  rw [show 132 + 2 * cN x = 131 + cN x * 2 + 1 by omega] at r2
  have hb3 : Below w.heap.size w ((((w.alloc (.cells #[.int .i64 x.cl, .int .i64 x.sp, .int .i64 x.gr, .int .i64 x.ep, .int .i64 x.kd, .int .i64 x.bl, .slice Dx ndx cdx, .int .i64 x.od, .int .i64 x.nw, .slice Nx nnx cnx] 45)).alloc (.cells #[.int .i64 0, .slice none 0 0, .int .i64 0, .slice none 0 0] 48)).alloc (.cells #[.int .i64 0, .slice none 0 0] 80)).drew) := (hb2.alloc (by simp; omega) _).drew
  have hb4 : Below ((w.alloc (.cells #[.int .i64 x.cl, .int .i64 x.sp, .int .i64 x.gr, .int .i64 x.ep, .int .i64 x.kd, .int .i64 x.bl, .slice Dx ndx cdx, .int .i64 x.od, .int .i64 x.nw, .slice Nx nnx cnx] 45)).alloc (.cells #[.int .i64 0, .slice none 0 0, .int .i64 0, .slice none 0 0] 48)).heap.size ((w.alloc (.cells #[.int .i64 x.cl, .int .i64 x.sp, .int .i64 x.gr, .int .i64 x.ep, .int .i64 x.kd, .int .i64 x.bl, .slice Dx ndx cdx, .int .i64 x.od, .int .i64 x.nw, .slice Nx nnx cnx] 45)).alloc (.cells #[.int .i64 0, .slice none 0 0, .int .i64 0, .slice none 0 0] 48)) ((((w.alloc (.cells #[.int .i64 x.cl, .int .i64 x.sp, .int .i64 x.gr, .int .i64 x.ep, .int .i64 x.kd, .int .i64 x.bl, .slice Dx ndx cdx, .int .i64 x.od, .int .i64 x.nw, .slice Nx nnx cnx] 45)).alloc (.cells #[.int .i64 0, .slice none 0 0, .int .i64 0, .slice none 0 0] 48)).alloc (.cells #[.int .i64 0, .slice none 0 0] 80)).drew) := ((Below.refl _ _).alloc (Nat.le_refl _) _).drew
  have s0 := (hb4.cell (p := ⟨w.heap.size, 0, none⟩) (by simp; omega)).trans q0
  have s1 := (hb4.cell (p := ⟨g, 131 + cN x * 2, none⟩) (by simp; have := h.lt g h.u; omega)).trans r1
  have s2 := (hb4.cell (p := ⟨g, 131 + cN x * 2 + 1, none⟩) (by simp; have := h.lt g h.u; omega)).trans r2
  have hw : IntKind.i64.wrap (x.cl - 31) = x.cl - 31 := by rw [IntWalk.i64_in _ (by omega)]
  have i0 : 0 ≤ x.cl - 31 := by omega
  have i4 : x.cl - 31 < 4 := by omega
  have hcn : (x.cl - 31).toNat = cN x := rfl
  have mixed : Tryz.prog.follows Departure.mixedOrders = true := by kernel_rfl
  have hb5 : Below ((w.alloc (.cells #[.int .i64 x.cl, .int .i64 x.sp, .int .i64 x.gr, .int .i64 x.ep, .int .i64 x.kd, .int .i64 x.bl, .slice Dx ndx cdx, .int .i64 x.od, .int .i64 x.nw, .slice Nx nnx cnx] 45)).alloc (.cells #[.int .i64 0, .slice none 0 0, .int .i64 0, .slice none 0 0] 48)).heap.size ((w.alloc (.cells #[.int .i64 x.cl, .int .i64 x.sp, .int .i64 x.gr, .int .i64 x.ep, .int .i64 x.kd, .int .i64 x.bl, .slice Dx ndx cdx, .int .i64 x.od, .int .i64 x.nw, .slice Nx nnx cnx] 45)).alloc (.cells #[.int .i64 0, .slice none 0 0, .int .i64 0, .slice none 0 0] 48)) ((((w.alloc (.cells #[.int .i64 x.cl, .int .i64 x.sp, .int .i64 x.gr, .int .i64 x.ep, .int .i64 x.kd, .int .i64 x.bl, .slice Dx ndx cdx, .int .i64 x.od, .int .i64 x.nw, .slice Nx nnx cnx] 45)).alloc (.cells #[.int .i64 0, .slice none 0 0, .int .i64 0, .slice none 0 0] 48)).alloc (.cells #[.int .i64 (v.cl (cN x)).st, .slice A n c] 80)).drew) := ((Below.refl _ _).alloc (Nat.le_refl _) _).drew
  have u1 := (hb5.cell (p := ⟨w.heap.size, 1, none⟩) (by simp; omega)).trans q1
  have C1 : Blk ((((w.alloc (.cells #[.int .i64 x.cl, .int .i64 x.sp, .int .i64 x.gr, .int .i64 x.ep, .int .i64 x.kd, .int .i64 x.bl, .slice Dx ndx cdx, .int .i64 x.od, .int .i64 x.nw, .slice Nx nnx cnx] 45)).alloc (.cells #[.int .i64 0, .slice none 0 0, .int .i64 0, .slice none 0 0] 48)).alloc (.cells #[.int .i64 (v.cl (cN x)).st, .slice A n c] 80)).drew) (w.heap.size + 1 + 1) 80 [.int .i64 (v.cl (cN x)).st, .slice A n c] := Blk.drewN_ (Blk.new rfl (by simp)) 1
  have u2 := C1.cell (i := 0) rfl
  have u3 := C1.cell (i := 1) rfl
  have A2 := A1.below hb5 (by simp)
  have hbw : Below w.heap.size w ((((w.alloc (.cells #[.int .i64 x.cl, .int .i64 x.sp, .int .i64 x.gr, .int .i64 x.ep, .int .i64 x.kd, .int .i64 x.bl, .slice Dx ndx cdx, .int .i64 x.od, .int .i64 x.nw, .slice Nx nnx cnx] 45)).alloc (.cells #[.int .i64 0, .slice none 0 0, .int .i64 0, .slice none 0 0] 48)).alloc (.cells #[.int .i64 (v.cl (cN x)).st, .slice A n c] 80)).drew) := (hb2.alloc (by simp; omega) _).drew
  have Hm : Hid (n ≤ 140737488355328) := Lib.hid (by have := (h.ok.cl (cN x) hn).1; have := d3.len; omega)
  have H := Lib.hid (And.intro hbw (And.intro A2 (d3.out (Out.ofBelow (fun _ => False) hb5) (fun _ _ => not_false))))
  clear h h1 X1 A1 A2 C1 hb2 hb3 hb4 hb5 hbw hbx hx d3 d1 d2 hcl
  generalize hr : agS v x = r
  have Hr := Lib.hid hr
  clear hr
  go_enter Tryz.func58, Tryz.ntmps58
  go_upto_region 1 with fail
  go_region
  by_cases he : x.sp = (v.cl (cN x)).st
  · have e1 : r = some ⟨0, (v.cl (cN x)).da, 0⟩ := by rw [← Hr.out]; unfold agS; rw [if_pos he]
    have he' : (x.sp == (v.cl (cN x)).st) = true := by simp [he]
    have he0 := Lib.hid (And.intro he e1)
    clear he e1
    go_wp2_with (go_at_call 61; go_loud (refine (clone_any A c n (v.cl (cN x)).da _ H.out.2.2.bs H.out.2.2.len Hm.out).mono ?_; rintro e w1 ⟨d, rfl, hd⟩; obtain ⟨A9, c9, rfl, _, _, _⟩ := hd.form; have Z := H.out.2.1.below hd.2 (by first | (simp; done) | (simp; omega)); have z0 := Z.cell (i := 0) rfl; have z1 := Z.cell (i := 1) rfl; have z2 := Z.cell (i := 2) rfl; have z3 := Z.cell (i := 3) rfl; have f0 := Z.free 0; have f1 := Z.free 1; have f2 := Z.free 2; have f3 := Z.free 3; have hd2 := Lib.hid (And.intro hd Z); clear hd Z))
    have bb := H.out.1.trans (hd2.out.1.2.mono (by first | (simp; done) | (simp; omega)))
    refine bodyPost_ret (res_at rfl (hd2.out.2.set4 _ _ _ _) rfl) rfl ?_
    rw [he0.out.2]
    refine ⟨_, rfl, _, rfl, ?_, below_set4 bb (by omega) _ _ _ _⟩
    refine mine_far hd2.out.1.1 (by first | (simp; done) | (simp; omega)) fun i hi => heap_set4 ?_ _ _ _ _
    have : w.heap.size + 1 + 1 + 1 ≤ i := by simpa using hi
    omega
  · have he' : (x.sp == (v.cl (cN x)).st) = false := by simp [he]
    by_cases hl : x.sp < (v.cl (cN x)).st
    · have e1 : r = some ⟨172, [], 0⟩ := by rw [← Hr.out]; unfold agS; rw [if_neg he, if_pos hl]
      have hl' : decide (x.sp < (v.cl (cN x)).st) = true := by simp [hl]
      have he0 := Lib.hid (And.intro he e1)
      clear he hl e1
      go_wp2
      refine bodyPost_ret (res_at rfl (Blk.drewN_ (Blk.old (Blk.new rfl (by simp)) _) 1) rfl) rfl ?_
      rw [he0.out.2]
      exact ⟨_, rfl, AnsV.plain rfl ((((Below.refl _ _).alloc (Nat.le_refl _) _).alloc (by simp) _).alloc (by first | (simp; done) | (simp; omega)) _).drew⟩
    · have e1 : r = none := by rw [← Hr.out]; unfold agS; rw [if_neg he, if_neg hl]
      have hl' : decide (x.sp < (v.cl (cN x)).st) = false := by simp [hl]
      have he0 := Lib.hid (And.intro he e1)
      clear he hl e1
      go_wp2
      refine bodyPost_ret (res_at rfl (Blk.drewN_ (Blk.old (Blk.new rfl (by simp)) _) 1) rfl) rfl ?_
      rw [he0.out.2]
      exact ⟨_, rfl, AnsV.plain rfl ((((Below.refl _ _).alloc (Nat.le_refl _) _).alloc (by simp) _).alloc (by first | (simp; done) | (simp; omega)) _).drew⟩
set_option maxRecDepth 100000 in
set_option maxHeartbeats 3200000 in
/-- Does the vault look at a wish (one that may be)? -/
theorem looks_in (h : VaIn w U g bk v cs) {x : Wl} {Dx : Option Addr} {ndx cdx : Nat} {Nx : Option Addr} {nnx cnx : Nat} (hx : ArgW w x Dx ndx cdx Nx nnx cnx) (hm : May x) :
    Calls Tryz.prog 56 #[.pointer (some ⟨g, 0, none⟩), .agg #[.int .i64 x.cl, .int .i64 x.sp, .int .i64 x.gr, .int .i64 x.ep, .int .i64 x.kd, .int .i64 x.bl, .slice Dx ndx cdx, .int .i64 x.od, .int .i64 x.nw, .slice Nx nnx cnx]] w fun e w' => e = .returned (.bool (lookB v x)) ∧ Below w.heap.size w w' := by
  have hbx : Below w.heap.size w (w.alloc (.cells #[.int .i64 x.cl, .int .i64 x.sp, .int .i64 x.gr, .int .i64 x.ep, .int .i64 x.kd, .int .i64 x.bl, .slice Dx ndx cdx, .int .i64 x.od, .int .i64 x.nw, .slice Nx nnx cnx] 45)) := (Below.refl _ _).alloc (Nat.le_refl _) _
  have X1 : Blk (w.alloc (.cells #[.int .i64 x.cl, .int .i64 x.sp, .int .i64 x.gr, .int .i64 x.ep, .int .i64 x.kd, .int .i64 x.bl, .slice Dx ndx cdx, .int .i64 x.od, .int .i64 x.nw, .slice Nx nnx cnx] 45)) w.heap.size 45 [.int .i64 x.cl, .int .i64 x.sp, .int .i64 x.gr, .int .i64 x.ep, .int .i64 x.kd, .int .i64 x.bl, .slice Dx ndx cdx, .int .i64 x.od, .int .i64 x.nw, .slice Nx nnx cnx] := Blk.new rfl rfl
  have q2 := X1.cell (i := 2) rfl
  have h1 := h.below hbx
  have c1 := h1.blk.cell h1.c1
  have Hc := Lib.hid (fun (W : World) (hb : Below w.heap.size w W) => check_any x Dx ndx cdx Nx nnx cnx W (hx.after hb))
  have H := Lib.hid (And.intro hbx (And.intro X1 h1))
  have hg := h.lt g h.u
  have Hg := Lib.hid hg
  have mixed : Tryz.prog.follows Departure.mixedOrders = true := by kernel_rfl
  have hc : chk x = 0 := by unfold chk; rw [if_pos hm]
  have hp : lookB v x = (decide (chk x = 0) && (x.gr == v.gr)) := by
    unfold lookB chk
    by_cases hm : May x <;> by_cases e : x.gr = v.gr <;> simp [hm, e]
  have Hp := Lib.hid hp
  clear h h1 X1 hbx hx hp hg hm
  generalize lookB v x = r at Hp ⊢
  go_enter Tryz.func56, Tryz.ntmps56
  go_upto_region 1 with fail
  · rw [hc] at Hc Hp
    have Hr : Hid (r = (x.gr == v.gr)) := Lib.hid (by have := Hp.out; simpa using this)
    have hz : ((0 : Int) == 0) = true := rfl
    go_region_with (go_at_call 83; go_loud (refine (Hc.out _ H.out.1.drew).mono ?_; rintro e w1 ⟨rfl, hb⟩; obtain hb := Lib.hid hb; have r2 := ((blk_drew H.out.2.1).below hb.out (by show _ < (World.alloc _ _).heap.size; simp)).cell (i := 2) rfl; have d1 := ((blk_drew H.out.2.2.blk).below hb.out (by have := Hg.out; show _ < (World.alloc _ _).heap.size; simp; omega)).cell H.out.2.2.c1))
    all_goals go_wp2
    all_goals go_ret
    all_goals exact ⟨by rw [Hr.out]; rfl, H.out.1.drew.trans (hb.out.mono (by show _ ≤ (World.alloc _ _).heap.size; simp))⟩
end
end Go.Proofs.YtfaeechidjpjbaaGreat

namespace Go.Proofs.YtfaeechidjpjbaaGreat
open Go.RowKit
set_option linter.unusedVariables false
set_option linter.unusedSimpArgs false

theorem set_k {cs : List Value} {x : Value} {p j : Nat} (h : p ≠ j) : (cs.set p x)[j]? = cs[j]? := List.getElem?_set_ne h
theorem set_row {cs : List Value} {x : Value} {p a k : Nat} (h : p < a ∨ a + k ≤ p) : ((cs.set p x).drop a).take k = (cs.drop a).take k := by
  apply List.ext_getElem?
  intro i
  rw [List.getElem?_take, List.getElem?_take]
  split
  · rw [List.getElem?_drop, List.getElem?_drop, set_k (by omega)]
  · rfl
theorem out_cells {S : Nat → Prop} {a : World} {x : Nat} (hx : S x) (vs : List Value) : ∀ {w : World} {o : Nat}, Out S a w → Out S a (w.setCells x o vs) := by
  induction vs with
  | nil => intro w o h; exact h
  | cons u vs ih => intro w o h; exact ih (h.setCell (fun _ => hx) u)
section
variable {w w' : World} {U U' S : Nat → Prop} {g : Nat} {bk : Value} {v : Va} {cs : List Value}
theorem out_g (w : World) (g o : Nat) (x : Value) : Out (fun i => i = g) w (w.setCell ⟨g, o, none⟩ x) := Out.setCell (S := fun i => i = g) (p := ⟨g, o, none⟩) (Out.refl _ w) (fun _ => rfl) x
theorem VaIn.seal_ (h : VaIn w U g bk v cs) {A : Option Addr} {n c : Nat} {l : List Int} (hr : InV w (fun b => U b ∧ b ≠ g) A n c l) (hl : l = [] ∨ Nxt l) :
    VaIn (w.setCell ⟨g, 139, none⟩ (.slice A n c)) U g bk { v with sea := l } (cs.set 139 (.slice A n c)) := by
  have ho := out_g w g 139 (.slice A n c)
  refine ⟨⟨h.ok.gr, h.ok.ep, h.ok.bl, h.ok.cl, hl⟩, h.blk.set_ 139 _, by rw [List.length_set]; exact h.len, (set_k (by omega)).trans h.c0, (set_k (by omega)).trans h.c1, (set_k (by omega)).trans h.c2, fun i hi => (set_row (by omega)).trans (h.bl i hi), fun i hi => ?_, ?_, h.u, fun i hi => Nat.lt_of_lt_of_le (h.lt i hi) ho.size⟩
  · obtain ⟨e1, A1, n1, c1, e2, e3⟩ := h.cl i hi
    exact ⟨(set_k (by omega)).trans e1, A1, n1, c1, (set_k (by omega)).trans e2, e3.out ho fun b hb => hb.2⟩
  · exact ⟨A, n, c, by rw [List.getElem?_set_self (by rw [h.len]; omega)], hr.out ho fun b hb => hb.2⟩
theorem VaIn.epoch_ (h : VaIn w U g bk v cs) {e : Int} (he : 0 ≤ e ∧ e ≤ 1048576) : VaIn (w.setCell ⟨g, 2, none⟩ (.int .i64 e)) U g bk { v with ep := e } (cs.set 2 (.int .i64 e)) := by
  have ho := out_g w g 2 (.int .i64 e)
  refine ⟨⟨h.ok.gr, he, h.ok.bl, h.ok.cl, h.ok.sea⟩, h.blk.set_ 2 _, by rw [List.length_set]; exact h.len, (set_k (by omega)).trans h.c0, (set_k (by omega)).trans h.c1, by rw [List.getElem?_set_self (by rw [h.len]; omega)], fun i hi => (set_row (by omega)).trans (h.bl i hi), fun i hi => ?_, ?_, h.u, fun i hi => Nat.lt_of_lt_of_le (h.lt i hi) ho.size⟩
  · obtain ⟨e1, A1, n1, c1, e2, e3⟩ := h.cl i hi
    exact ⟨(set_k (by omega)).trans e1, A1, n1, c1, (set_k (by omega)).trans e2, e3.out ho fun b hb => hb.2⟩
  · obtain ⟨A, n, c, e1, e2⟩ := h.sl
    exact ⟨A, n, c, (set_k (by omega)).trans e1, e2.out ho fun b hb => hb.2⟩
/-- A client's two cells. -/
theorem VaIn.who_ (h : VaIn w U g bk v cs) {k : Nat} (hk : k < 4) {A : Option Addr} {n c : Nat} {x : C16} (hr : ByV w (fun b => U b ∧ b ≠ g) A n c x.da) (hx : (x.da.length = 0 ∨ x.da.length = 16) ∧ 0 ≤ x.st ∧ x.st ≤ 9007199254740991) :
    VaIn ((w.setCell ⟨g, 131 + 2 * k, none⟩ (.int .i64 x.st)).setCell ⟨g, 132 + 2 * k, none⟩ (.slice A n c)) U g bk (v.who k x) ((cs.set (131 + 2 * k) (.int .i64 x.st)).set (132 + 2 * k) (.slice A n c)) := by
  have ho := (out_g w g (131 + 2 * k) (.int .i64 x.st)).trans (out_g _ g (132 + 2 * k) (.slice A n c)) (fun _ _ e => e)
  refine ⟨h.ok.who k hx, (h.blk.set_ _ _).set_ _ _, by rw [List.length_set, List.length_set]; exact h.len, ((set_k (by omega)).trans (set_k (by omega))).trans h.c0, ((set_k (by omega)).trans (set_k (by omega))).trans h.c1, ((set_k (by omega)).trans (set_k (by omega))).trans h.c2, fun i hi => ((set_row (by omega)).trans (set_row (by omega))).trans (h.bl i hi), fun i hi => ?_, ?_, h.u, fun i hi => Nat.lt_of_lt_of_le (h.lt i hi) ho.size⟩
  · show _ = some (Value.int .i64 (if i = k then x else v.cl i).st) ∧ ∃ A' n' c', _ ∧ ByV _ _ _ _ _ (if i = k then x else v.cl i).da
    by_cases e : i = k
    · subst e
      rw [if_pos rfl]
      refine ⟨(set_k (by omega)).trans (List.getElem?_set_self (by rw [h.len]; omega)), A, n, c, List.getElem?_set_self (by rw [List.length_set, h.len]; omega), hr.out ho fun b hb => hb.2⟩
    · rw [if_neg e]
      obtain ⟨e1, A1, n1, c1, e2, e3⟩ := h.cl i hi
      exact ⟨((set_k (by omega)).trans (set_k (by omega))).trans e1, A1, n1, c1, ((set_k (by omega)).trans (set_k (by omega))).trans e2, e3.out ho fun b hb => hb.2⟩
  · obtain ⟨A2, n2, c2, e1, e2⟩ := h.sl
    exact ⟨A2, n2, c2, ((set_k (by omega)).trans (set_k (by omega))).trans e1, e2.out ho fun b hb => hb.2⟩
/-- A block's sixteen bytes. -/
theorem VaIn.put_ (h : VaIn w U g bk v cs) {k : Nat} (hk : k < 8) {l : List UInt8} (hl : l.length = 16) (hB : Blk w' g 83 (cs.take (3 + 16 * k) ++ cbs l ++ cs.drop (3 + 16 * k + (cbs l).length))) (ho : Out (fun i => i = g) w w') :
    VaIn w' U g bk (v.put k l) (cs.take (3 + 16 * k) ++ cbs l ++ cs.drop (3 + 16 * k + (cbs l).length)) := by
  have hcl : (cbs l).length = 16 := by rw [cbs_length]; exact hl
  have hlen := h.len
  have hlo : ∀ j, j < 3 + 16 * k → (cs.take (3 + 16 * k) ++ cbs l ++ cs.drop (3 + 16 * k + (cbs l).length))[j]? = cs[j]? := fun j hj => by
    rw [List.append_assoc, List.getElem?_append_left (by rw [List.length_take]; omega), List.getElem?_take, if_pos hj]
  have hhi : ∀ j, 3 + 16 * k + 16 ≤ j → (cs.take (3 + 16 * k) ++ cbs l ++ cs.drop (3 + 16 * k + (cbs l).length))[j]? = cs[j]? := fun j hj => by
    rw [List.getElem?_append_right (by rw [List.length_append, List.length_take]; omega), List.getElem?_drop, List.length_append, List.length_take, hcl]
    congr 1
    omega
  have hmi : ∀ j, j < 16 → (cs.take (3 + 16 * k) ++ cbs l ++ cs.drop (3 + 16 * k + (cbs l).length))[3 + 16 * k + j]? = (cbs l)[j]? := fun j hj => by
    rw [List.getElem?_append_left (by rw [List.length_append, List.length_take]; omega), List.getElem?_append_right (by rw [List.length_take]; omega), List.length_take]
    congr 1
    omega
  refine ⟨h.ok.put k hl, hB, by rw [List.length_append, List.length_append, List.length_take, List.length_drop]; omega, (hlo 0 (by omega)).trans h.c0, (hlo 1 (by omega)).trans h.c1, (hlo 2 (by omega)).trans h.c2, fun i hi => ?_, fun i hi => ?_, ?_, h.u, fun i hi => Nat.lt_of_lt_of_le (h.lt i hi) ho.size⟩
  · show _ = cbs (if i = k then l else v.bl i)
    apply List.ext_getElem?
    intro j
    by_cases e : i = k
    · subst e
      rw [if_pos rfl, List.getElem?_take]
      split
      · rename_i hj
        rw [List.getElem?_drop, hmi j hj]
      · rw [List.getElem?_eq_none (by omega)]
    · rw [if_neg e, ← h.bl i hi, List.getElem?_take, List.getElem?_take]
      split
      · rename_i hj
        rw [List.getElem?_drop, List.getElem?_drop]
        rcases Nat.lt_or_gt_of_ne e with e | e
        · exact hlo _ (by omega)
        · exact hhi _ (by omega)
      · rfl
  · obtain ⟨e1, A1, n1, c1, e2, e3⟩ := h.cl i hi
    exact ⟨(hhi _ (by omega)).trans e1, A1, n1, c1, (hhi _ (by omega)).trans e2, e3.out ho fun b hb => hb.2⟩
  · obtain ⟨A2, n2, c2, e1, e2⟩ := h.sl
    exact ⟨A2, n2, c2, (hhi _ (by omega)).trans e1, e2.out ho fun b hb => hb.2⟩
end
theorem out_row (w : World) (g : Nat) (cs : Array Value) : Out (fun i => i = g) w (w.setRow g cs) := ⟨rfl, rfl, rfl, by simp [World.setRow], fun i _ hn => setRow_other w g i cs (by omega)⟩
theorem info1_ : (Tryz.prog.info? 5).map (·.size) = some 1 := by kernel_rfl
theorem clone_ints {w : World} {A : Option Addr} {n c : Nat} {l : List Int} (h : ArgI w A n c l) (hn : 0 < n) (hb : n ≤ 1000) :
    Calls Tryz.prog 64 #[.slice A n c] w fun e w' => ∃ g cap, e = .returned (.slice (some ⟨g, 0, none⟩) n cap) ∧ w.heap.size ≤ g ∧ ArgI w' (some ⟨g, 0, none⟩) n cap l ∧ Below w.heap.size w w' := by
  obtain ⟨h1, h2, h3, h4, h5⟩ := h
  obtain ⟨b, off, rfl, hb1, hc⟩ := h4.at_ (i := 0) (by omega)
  refine (Tryz.slices_Clone_int b off n c l w (by omega) (by omega) (fun j hj => by rw [hc j hj, List.getD_eq_getElem?_getD, List.getElem?_eq_getElem hj]; rfl)).mono ?_
  rintro e w' ⟨v, rfl, hO, _, hbel⟩
  rw [List.take_of_length_le (by omega)] at hO
  have hO2 := hO
  obtain ⟨o1, o2⟩ := hO
  rcases o2 with ⟨rfl, hx⟩ | ⟨g, cap, cur, rfl, hg, _, hc1, hm, _⟩
  · omega
  · refine ⟨g, cap, rfl, hg, ⟨h1, hc1, hm, ?_, h5⟩, hbel⟩
    have := Shows.ofOwn hO2
    unfold Is
    rw [h1]
    exact this
end Go.Proofs.YtfaeechidjpjbaaGreat
