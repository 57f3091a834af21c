/-
  Laid together for a hand-in: Api, Clone3, Ink, Book, Blk, Ints, Wi11, Wm11.
-/
import Derived.Test.YtfaeechidjpjbaaGreatZ07
import Derived.Test.YtfaeechidjpjbaaGreatZ01
import Derived.Test.YtfaeechidjpjbaaGreatZ06
import Derived.Test.YtfaeechidjpjbaaGreatZ03
import Derived.Laws.ResultCell
import Derived.Maps.Own
import Derived.Maps.OwnOps
import Derived.Maps.Views
import Derived.DeepKeys4
import Derived.ProofKit
import Derived.OpenShut
import Derived.ShutString
import Derived.ChangeOld
import Derived.SizedLaws
import Derived.Deep.Slices
import Derived.Deep.RegionHeld3
import Derived.Deep.AppendLies

namespace Go.Proofs.YtfaeechidjpjbaaGreat

open Go.RowKit

set_option linter.unusedVariables false

theorem start_any (w : World) : Calls Tryz.prog 167 #[] w fun e w' => e = .returned (.agg #[.int .u32 1779033703, .int .u32 3144134277, .int .u32 1013904242, .int .u32 2773480762, .int .u32 1359893119, .int .u32 2600822924, .int .u32 528734635, .int .u32 1541459225]) ∧ Below w.heap.size w w' := by
  go_enter Tryz.func167, Tryz.ntmps167
  go_wp2
  refine bodyPost_ret (results_cell_row rfl _ _ w.heap.size 180 _ (0, 0) _ rfl (heap_alloc_new w _) Tryz.underlying180 rfl info8w) rfl ⟨?_, (Below.refl _ _).alloc (Nat.le_refl _) _⟩
  rfl

theorem Hold.touched {w w' : World} {g k : Nat} {l : List UInt8} (h : Hold w g l) (hb : But k w w') (hne : g ≠ k) : Hold w' g l := by
  obtain ⟨rest, h1, h2⟩ := h
  exact ⟨rest, h1.touched hb hne, h2⟩

theorem Hold.below {w w' : World} {g : Nat} {l : List UInt8} (h : Hold w g l) (hb : Below w.heap.size w w') : Hold w' g l := by
  obtain ⟨rest, h1, h2⟩ := h
  exact ⟨rest, h1.below hb, h2⟩

theorem Hold.lt {w : World} {g : Nat} {l : List UInt8} (h : Hold w g l) : g < w.heap.size := by obtain ⟨_, h1, _⟩ := h; exact h1.lt

theorem Hold.made {w : World} {g : Nat} {l : List UInt8} (h : Hold w g l) : w.cell? ⟨g, 0, none⟩ = some (.bool true) := by obtain ⟨_, h1, _⟩ := h; exact h1.made

def zero141 : List Value := hcells S8.first (List.replicate 64 0) 0 0 0 (List.replicate 64 (.int .u32 0))

set_option maxRecDepth 100000 in
set_option maxHeartbeats 800000 in
theorem new_any (w : World) : Calls Tryz.prog 155 #[] w fun e w' => ∃ g, e = .returned (.pointer (some ⟨g, 0, none⟩)) ∧ w.heap.size ≤ g ∧ Hold w' g [] ∧ Below w.heap.size w w' := by
  go_enter Tryz.func155, Tryz.ntmps155
  go_wp2_with fail
  refine (start_any _).mono ?_
  rintro e w1 ⟨rfl, b1⟩
  go_wp2
  go_ret
  exact ⟨w1.heap.size, rfl, b1.size, ⟨List.replicate 64 0, ⟨0, List.replicate 64 (.int .u32 0), Blk.new (by kernel_rfl) rfl, rfl, rfl, .inl rfl⟩, rfl⟩, b1.alloc b1.size _⟩

theorem results_row_tmp3 {P : Program} {fn : Func} {p u : Tmp} {ty : TypeId} (h : fn.results = #[.cell p ty, .tmp u]) (tmps : Array Value) (w : World) (g : Nat) (t : TypeId) (cs : Array Value) (fr : Nat × Nat) (d : TypeDesc)
    (hp : tmps.getD p undef = .pointer (some ⟨g, 0, none⟩)) (hg : w.heap[g]? = some (.cells cs t fr))
    (hu : P.underlying ty = some d) (hd : (match d with | .struct _ | .array _ _ => true | _ => false) = true) (hi : (P.info? ty).map (·.size) = some cs.size) :
    (results fn tmps).run P w = .ok (.tuple #[.agg cs, tmps.getD u undef]) w := by
  have hp' : tmps[p]?.getD undef = .pointer (some ⟨g, 0, none⟩) := by simpa using hp
  rw [results_cell_tmp h]
  simp [hp', asAddr, run_loadVar_row w g t ty cs fr d hg hu hd hi, Result.andThen]

set_option maxRecDepth 100000 in
set_option maxHeartbeats 800000 in
theorem of_any (A : Option Addr) (n c : Nat) (l : List UInt8) (w : World) (hB : Bs w A l) (hn : l.length = n) (hc : n ≤ c) (hcm : c ≤ maxLen) (hl : n ≤ 281474976710656) :
    Calls Tryz.prog 144 #[.slice A n c] w fun e w' => e = .returned (.agg (cbs (digest l)).toArray) ∧ Below w.heap.size w w' := by
  obtain ⟨D, hD32, hDv, hD1⟩ : ∃ D : List Value, D.length = 32 ∧ cbs (digest l) = D ∧ D.toArray.all (·.oneCell') = true := ⟨cbs (digest l), by rw [cbs_length, digest_last]; rfl, rfl, cbs_one' _⟩
  rw [hDv]
  have Ho := Lib.hid (And.intro hD32 (And.intro hD1 hDv))
  have Hl := Lib.hid (And.intro hB (And.intro hn (And.intro hc (And.intro hcm hl))))
  clear hD32 hD1 hDv hB hn hc hcm hl
  go_enter Tryz.func144, Tryz.ntmps144
  go_wp2_with fail
  refine (new_any _).mono ?_
  rintro e w1 ⟨g, rfl, hg, hH, b1⟩
  have z1 := b1.size
  simp only [World.size_alloc] at hg z1
  obtain ⟨hB, hn, hc, hcm, hl⟩ := Hl.out
  have hB1 : Bs w1 A l := (hB.after ((Below.refl _ _).alloc (Nat.le_refl _) (.cells (cbs (List.replicate 32 0)).toArray 59))).after b1
  have hA : Away A g l := hB.away (by omega)
  have hZ : Blk w1 w.heap.size 59 (cbs (List.replicate 32 0)) := Blk.below (Blk.new rfl rfl) b1 (by simp)
  have hnx : Below w.heap.size w w1 := ((Below.refl _ _).alloc (Nat.le_refl _) _).trans (b1.mono (by simp))
  have hwr := write_any g [] l A n c w1 hn hc hcm (by simpa using hl) hH hB1 hA
  rw [List.nil_append] at hwr
  have Hwr := Lib.hid hwr
  clear hB hn hc hcm hl hB1 hA hwr hH b1
  go_wp2_with fail
  refine Hwr.out.mono ?_
  rintro e w2 ⟨rfl, hH2, hb2⟩
  have hZ2 := hb2.blk hZ (by omega)
  have hdg := digest_any g l w2 (by have := Hl.out; omega) hH2
  rw [Ho.out.2.2] at hdg
  have Hdg := Lib.hid hdg
  have hb2s := hb2.size
  clear hdg hH2 hZ
  go_wp2_with fail
  refine Hdg.out.mono ?_
  rintro e w3 ⟨rfl, hH3, hb3⟩
  have hZ3 := hb3.blk hZ2 (by omega)
  have hsz : D.toArray.size = 32 := by rw [List.size_toArray]; exact Ho.out.1
  have hth : w3.there w.heap.size 0 D.toArray.size := by
    have e := hZ3.there
    rw [cbs_length, List.length_replicate] at e
    rw [hsz]; exact e
  have hi : (Tryz.prog.info? 59).map (·.size) = some D.toArray.size := by rw [hsz]; exact info32b
  have hR := hZ3.setAll (vs := D) (by rw [Ho.out.1, cbs_length, List.length_replicate])
  have hnx' : Below w.heap.size w (w3.setCells w.heap.size 0 D) :=
    Below.setCells (Nat.le_refl _) _ ((hnx.trans (hb2.above (by omega) (by omega))).trans (hb3.above (by omega) (by omega)))
  have Hth := Lib.hid hth
  have Hi := Lib.hid hi
  have Hq := Lib.hid (And.intro hR hnx')
  clear hZ2 hZ3 hsz hth hi hR hnx' hH3 hb3 hb2 hnx
  go_wp2_with (refine wpList_store_mid rfl 59 _ _ rfl w.heap.size 0 D.toArray rfl rfl Hth.out Hi.out Ho.out.2.1 ?_)
  exact bodyPost_ret (results_cell_row rfl _ _ w.heap.size 59 D.toArray (0, 0) _ rfl Hq.out.1 Tryz.underlying59 rfl Hi.out) rfl ⟨rfl, Hq.out.2⟩

end Go.Proofs.YtfaeechidjpjbaaGreat

namespace Go.Proofs.YtfaeechidjpjbaaGreat

open Go.RowKit

set_option linter.unusedVariables false

set_option maxHeartbeats 400000 in
theorem clone_any3 (A : Option Addr) (c n : Nat) (xs : List UInt8) (w : World) (hA : Bs w A xs) (hn : xs.length = n) (hl : n ≤ 140737488355328) :
    Calls Tryz.prog 61 #[.slice A n c] w (RetB w xs) := by
  have Hn := Lib.hid hn
  clear hn
  cases A with
  | none =>
    have hm : xs = [] := by
      cases xs with
      | nil => rfl
      | cons x t => obtain ⟨b, off, e, _⟩ := hA.at_ (i := 0) (by simp); cases e
    subst hm
    have hq := fun (w : World) => Lib.run_eql_slice_nil (P := Tryz.prog) w 22 5 none n c 0 0 Tryz.underlying22
    go_enter Tryz.func61, Tryz.ntmps61
    go_wp2
    go_ret
    exact ⟨_, rfl, World.ownsRow_nil _ _ _ _, Below.refl _ _⟩
  | some ad =>
    have hq := fun (w : World) => Lib.run_eql_slice_nil (P := Tryz.prog) w 22 5 (some ad) n c 0 0 Tryz.underlying22
    go_enter Tryz.func61, Tryz.ntmps61
    go_wp2_with (at_builtin; refine wp_appendB rfl _ _ rfl w.heap.size (.slice (some ⟨w.heap.size, 0, none⟩) 0 0) [] rfl (by exact World.ownsRow_made w #[] 0 (Nat.le_refl _) (by simp [maxLen]) rfl) (some ad) c n xs rfl (by exact hA.on ((Below.refl _ _).alloc (Nat.le_refl _) _)) Hn.out (by simpa using hl) (by simp) ?_; intro v1 w1 hm1 hg1 ho1)
    go_ret
    refine ⟨v1, rfl, by simpa using hm1, ((Below.refl _ _).alloc (Nat.le_refl _) _).grown hg1 (by simp) ?_⟩
    intro k hk
    simp [Value.ownBlock] at hk
    omega

end Go.Proofs.YtfaeechidjpjbaaGreat

namespace Go.Proofs.YtfaeechidjpjbaaGreat

open Go.RowKit Go.Maps

set_option linter.unusedVariables false

/-! ### The key: a digest -/

theorem mapM_some {α β : Type} (f : α → Option β) : ∀ l : List α, (∀ a ∈ l, ∃ b, f a = some b) → ∃ r, l.mapM f = some r
  | [], _ => ⟨[], rfl⟩
  | a :: l, h => by
    obtain ⟨b, hb⟩ := h a (by simp)
    obtain ⟨r, hr⟩ := mapM_some f l (fun x hx => h x (by simp [hx]))
    exact ⟨b :: r, by simp [List.mapM_cons, hb, hr]⟩

theorem keyType_digest : Tryz.prog.keyType 59 = true := by kernel_rfl

theorem cells_u8 : Tryz.prog.cellsOf 5 = 1 := by kernel_rfl

theorem cells_digest : Tryz.prog.cellsOf 59 = 32 := by kernel_rfl

theorem under_digest : Tryz.prog.underlying 59 = some (.array 32 5) := by kernel_rfl

theorem types_more : ∃ k, Tryz.prog.types.size + 1 = k + 2 := ⟨Tryz.prog.types.size - 1, by kernel_rfl⟩

theorem keyed_digest : Keyed Tryz.prog 59 := Keyed.of_law (deep_law_laid (by kernel_rfl) (m := 3) (by decide) (by decide +kernel) (by kernel_rfl) (by rw [under_digest]))

theorem wf_byte (x : UInt8) : (Lit.int .u8 (x.toNat : Int)).wf = true := by
  have := x.toNat_lt
  have h1 : (0 : Int) ≤ x.toNat := by omega
  have h2 : (x.toNat : Int) ≤ 255 := by omega
  simp [Lit.wf, IntKind.min, IntKind.max, IntKind.signed, IntKind.bits, h1, h2]
  try omega

theorem key_digest (d : List UInt8) (h : d.length = 32) : ∃ kl, keyOf Tryz.prog 59 (.agg (cbs d).toArray) = some kl := by
  obtain ⟨k, hk⟩ := types_more
  have hf : Value.formed Tryz.prog 59 (.agg (cbs d).toArray) = true := by
    unfold Value.formed
    rw [under_digest, cells_digest]
    simp [cbs_length, h]
  have hl : ∃ ls, Tryz.prog.keyLits (k + 2) 59 (cbs d) = some ls := by
    unfold Program.keyLits
    simp only [under_digest, cells_digest, cbs_length, h, if_true, cells_u8]
    obtain ⟨r, hr⟩ := mapM_some (fun i => Tryz.prog.keyLits (k + 1) 5 (((cbs d).drop (i * 1)).take 1)) (List.range 32) (fun i hi => by
      have hi' : i < d.length := by rw [h]; simpa using hi
      have e1 : ((cbs d).drop (i * 1)).take 1 = [cb d[i]] := by
        rw [Nat.mul_one, List.drop_eq_getElem_cons (by rw [cbs_length]; exact hi')]
        simp [cbs]
      rw [e1]
      unfold Program.keyLits
      simp only [Tryz.underlying5, cb]
      rw [if_pos ⟨trivial, wf_byte d[i]⟩]
      exact ⟨_, rfl⟩)
    rw [hr]
    exact ⟨_, rfl⟩
  obtain ⟨ls, hls⟩ := hl
  refine ⟨.string (keyBytes ls), ?_⟩
  unfold keyOf
  rw [under_digest]
  simp only [keyType_digest, hf, Bool.and_self, if_true, hk]
  show Option.map _ (Tryz.prog.keyLits (k + 2) 59 (cbs d)) = _
  rw [hls]
  rfl

theorem cbs_inj {l m : List UInt8} (h : cbs l = cbs m) : l = m := by
  have := congrArg (List.map fun v => match v with | Value.int _ n => UInt8.ofNat n.toNat | _ => 0) h
  simpa [cbs, cb, Function.comp_def] using this

theorem key_inj {d d' : List UInt8} {kl kl' : Lit} (h : keyOf Tryz.prog 59 (.agg (cbs d).toArray) = some kl) (h' : keyOf Tryz.prog 59 (.agg (cbs d').toArray) = some kl') (hne : d' ≠ d) : kl' ≠ kl := by
  rintro rfl
  have := keyed_digest.inj h h'
  injection this with e
  exact hne (cbs_inj (by have := congrArg Array.toList e; simpa using this)).symm

end Go.Proofs.YtfaeechidjpjbaaGreat

namespace Go.Proofs.YtfaeechidjpjbaaGreat

open Go.RowKit Go.Maps

set_option linter.unusedVariables false

/-- Of the old blocks only such of 'S' are not as they were. -/
structure Out (S : Nat → Prop) (w w' : World) : Prop where
  os : w'.os = w.os
  tape : w'.tape = w.tape
  output : w'.output = w.output
  size : w.heap.size ≤ w'.heap.size
  block : ∀ i, i < w.heap.size → ¬ S i → w'.heap[i]? = w.heap[i]?

section

variable {S S' : Nat → Prop} {a b c w w' : World}

theorem Out.refl (S : Nat → Prop) (w : World) : Out S w w := ⟨rfl, rfl, rfl, Nat.le_refl _, fun _ _ _ => rfl⟩

theorem Out.trans (h : Out S a b) (k : Out S' b c) (hs : ∀ i, i < a.heap.size → S' i → S i) : Out S a c :=
  ⟨k.os.trans h.os, k.tape.trans h.tape, k.output.trans h.output, Nat.le_trans h.size k.size, fun i hi hn => (k.block i (Nat.lt_of_lt_of_le hi h.size) fun e => hn (hs i hi e)).trans (h.block i hi hn)⟩

theorem Out.ofBelow (S : Nat → Prop) (h : Below w.heap.size w w') : Out S w w' := ⟨h.os, h.tape, h.output, h.size, fun i hi _ => h.block i hi⟩

theorem Out.then_below (h : Out S a b) (k : Below b.heap.size b c) : Out S a c := h.trans (Out.ofBelow S k) fun _ _ e => e

theorem Out.then_grown (h : Out S a b) {row : Option Nat} (k : b.grownBy c row) (hr : ∀ i, row = some i → i < a.heap.size → S i) : Out S a c :=
  ⟨k.os.trans h.os, k.tape.trans h.tape, k.output.trans h.output, Nat.le_trans h.size k.size, fun i hi hn => (k.block i (Nat.lt_of_lt_of_le hi h.size) fun e => hn (hr i e.symm hi)).trans (h.block i hi hn)⟩

theorem Out.setCell (h : Out S a w) {p : Addr} (hp : p.block < a.heap.size → S p.block) (u : Value) : Out S a (w.setCell p u) := by
  refine ⟨h.os, h.tape, h.output, by simpa [World.setCell] using h.size, fun i hi hn => ?_⟩
  refine (Below.heap_setCell w p u i ?_).trans (h.block i hi hn)
  rintro rfl
  exact hn (hp hi)

theorem Out.drewN (h : Out S a w) (n : Nat) : Out S a (w.drewN n) := ⟨h.os, h.tape, h.output, h.size, h.block⟩

theorem Out.above {B : Nat} (h : Out S w w') (hS : ∀ i, S i → B ≤ i) (hB : B ≤ w.heap.size) : Below B w w' :=
  ⟨h.os, h.tape, h.output, h.size, fun i hi => h.block i (by omega) fun e => by have := hS i e; omega⟩

theorem Out.blk {g : Nat} {t : TypeId} {l : List Value} (h : Out S w w') (hb : Blk w g t l) (hn : ¬ S g) : Blk w' g t l := (h.block g hb.lt hn).trans hb

end

/-! ### Rows that stay -/

theorem row_stay {w w' : World} {base : Nat} {e : TypeId} {size n : Nat} {v : Value} {xs : List Value} (h : w.ownsRow base e size v n xs)
    (hk : ∀ b cs, v.ownBlock = some b → w.heap[b]? = some (.cells cs e (0, 0)) → w'.heap[b]? = w.heap[b]?) : w'.ownsRow base e size v n xs := by
  obtain ⟨h1, h2 | ⟨g, cap, cur, rfl, hb, hg, h3⟩⟩ := h
  · exact ⟨h1, .inl h2⟩
  · exact ⟨h1, .inr ⟨g, cap, cur, rfl, hb, (hk g cur rfl hg).trans hg, h3⟩⟩

theorem row_block {w : World} {base : Nat} {e : TypeId} {size n : Nat} {v : Value} {xs : List Value} (h : w.ownsRow base e size v n xs) {b : Nat} (hb : v.ownBlock = some b) : ∃ cs, w.heap[b]? = some (.cells cs e (0, 0)) := by
  obtain ⟨h1, ⟨rfl, _⟩ | ⟨g, cap, cur, rfl, _, hg, _⟩⟩ := h
  · simp [Value.ownBlock] at hb
  · simp [Value.ownBlock] at hb; subst hb; exact ⟨cur, hg⟩

theorem row_base {w : World} {base base' : Nat} {e : TypeId} {size n : Nat} {v : Value} {xs : List Value} (h : w.ownsRow base e size v n xs) (hle : base' ≤ base) : w.ownsRow base' e size v n xs := by
  obtain ⟨h1, h2 | ⟨g, cap, cur, rfl, hb, h3⟩⟩ := h
  · exact ⟨h1, .inl h2⟩
  · exact ⟨h1, .inr ⟨g, cap, cur, rfl, Nat.le_trans hle hb, h3⟩⟩

theorem Mine.unique {w : World} {base : Nat} {e : TypeId} {v : Value} {x y : List UInt8} (h : Mine w base e v x) (k : Mine w base e v y) : x = y := by
  obtain ⟨h1, ⟨rfl, hx⟩ | ⟨g, cap, cur, rfl, _, hg, _, _, _, ht⟩⟩ := h
  · obtain ⟨_, ⟨_, hy⟩ | ⟨_, _, _, e1, _⟩⟩ := k
    · rw [List.eq_nil_of_length_eq_zero hx, List.eq_nil_of_length_eq_zero hy]
    · cases e1
  · obtain ⟨_, ⟨e1, _⟩ | ⟨g', cap', cur', e1, _, hg', _, _, _, ht'⟩⟩ := k
    · cases e1
    · injection e1 with e2 e3 e4
      injection e2 with e2
      injection e2 with e2
      subst e2
      rw [hg] at hg'
      injection hg' with e5
      injection e5 with e5
      subst e5
      rw [e3] at ht
      exact cbs_inj (ht.symm.trans ht')

/-! ### What a key's slice shows -/

def Rv (v : Value) : Option (DataW Value × List MemPlace) := some (.held v, [])

def nilS : Value := .slice none 0 0

def grp (d : List UInt8) (L : List (List UInt8)) : List (List UInt8) := L.filter fun x => digest x == d

def HeadOf (w : World) (S : Nat → Prop) (h : Value) (x : List UInt8) : Prop := Mine w 0 5 h x ∧ ∀ b, h.ownBlock = some b → S b

def Keeps (w : World) (S : Nat → Prop) (v : Value) (xs : List (List UInt8)) : Prop :=
  ∃ cs, w.ownsRow 0 22 1 v xs.length cs ∧ (∀ b, v.ownBlock = some b → S b) ∧ (xs = [] → v = nilS) ∧ ∀ (j : Nat) (x : List UInt8), xs[j]? = some x → ∃ h, cs[j]? = some h ∧ HeadOf w S h x

section

variable {S S' : Nat → Prop} {w w' : World} {v : Value} {xs : List (List UInt8)}

theorem HeadOf.stay {h : Value} {x : List UInt8} (hd : HeadOf w S h x) (hS : ∀ i, S i → S' i) (hk : ∀ i cs, S i → w.heap[i]? = some (.cells cs 5 (0, 0)) → w'.heap[i]? = w.heap[i]?) : HeadOf w' S' h x :=
  ⟨row_stay hd.1 fun b cs hb hc => hk b cs (hd.2 b hb) hc, fun b hb => hS b (hd.2 b hb)⟩

theorem Keeps.stay (h : Keeps w S v xs) (hS : ∀ i, S i → S' i) (hk : ∀ i cs, S i → w.heap[i]? = some (.cells cs 5 (0, 0)) → w'.heap[i]? = w.heap[i]?)
    (hv : ∀ b cs, v.ownBlock = some b → S b → w.heap[b]? = some (.cells cs 22 (0, 0)) → w'.heap[b]? = w.heap[b]?) : Keeps w' S' v xs := by
  obtain ⟨cs, h1, h2, h3, h4⟩ := h
  refine ⟨cs, row_stay h1 fun b cs hb hc => hv b cs hb (h2 b hb) hc, fun b hb => hS b (h2 b hb), h3, fun j x hx => ?_⟩
  obtain ⟨hd, e, hh⟩ := h4 j x hx
  exact ⟨hd, e, hh.stay hS hk⟩

theorem Keeps.form (h : Keeps w S v xs) : ∃ A c, v = .slice A xs.length c ∧ xs.length ≤ c ∧ c ≤ maxLen := by
  obtain ⟨cs, ⟨_, ⟨rfl, e⟩ | ⟨g, cap, cur, rfl, _, _, h1, h2, _⟩⟩, _⟩ := h
  · exact ⟨none, 0, by rw [e], by omega, by simp [maxLen]⟩
  · exact ⟨_, cap, rfl, h1, h2⟩

/-- Element j, as memory has it. -/
theorem Keeps.at_ (h : Keeps w S v xs) {j : Nat} (hj : j < xs.length) : ∃ b A c c', v = .slice (some ⟨b, 0, none⟩) xs.length c' ∧ w.cell? ⟨b, j, none⟩ = some (.slice A xs[j].length c) ∧ xs[j].length ≤ c ∧ c ≤ maxLen ∧ Bs w A xs[j] := by
  obtain ⟨cs, h1, h2, h3, h4⟩ := h
  obtain ⟨hd, e, hh⟩ := h4 j _ (List.getElem?_eq_getElem hj)
  obtain ⟨A, c, rfl, a1, a2, a3⟩ := Mine.form hh.1
  have hb : ∃ b c', v = .slice (some ⟨b, 0, none⟩) xs.length c' := by
    rcases h1.2 with ⟨_, e0⟩ | ⟨g, cap, cur, rfl, _⟩
    · omega
    · exact ⟨g, cap, rfl⟩
  obtain ⟨b, c', hb⟩ := hb
  have := h1.cells (g := b) (by rw [hb]; rfl) j _ e
  rw [add_mk, Nat.zero_add] at this
  exact ⟨b, A, c, c', hb, this, a1, a2, a3⟩

/-- Two slices in one row begin alike. -/
theorem Keeps.apart {v' : Value} {ys : List (List UInt8)} (h : Keeps w S v xs) (k : Keeps w S' v' ys) {b : Nat} (hb : v.ownBlock = some b) (hb' : v'.ownBlock = some b) (hx : xs ≠ []) (hy : ys ≠ []) : ∃ x, x ∈ xs ∧ x ∈ ys := by
  obtain ⟨cs, h1, _, _, h4⟩ := h
  obtain ⟨cs', k1, _, _, k4⟩ := k
  cases xs with
  | nil => exact absurd rfl hx
  | cons x xs =>
    cases ys with
    | nil => exact absurd rfl hy
    | cons y ys =>
      obtain ⟨hd, e, hh⟩ := h4 0 x rfl
      obtain ⟨hd', e', hh'⟩ := k4 0 y rfl
      have a1 := h1.cells hb 0 _ e
      have a2 := k1.cells hb' 0 _ e'
      rw [a1] at a2
      injection a2 with a2
      subst a2
      exact ⟨x, by simp, by rw [hh.1.unique hh'.1]; simp⟩

theorem Keeps.nil (w : World) (S : Nat → Prop) : Keeps w S nilS [] := ⟨[], World.ownsRow_nil _ _ _ _, fun b hb => by simp [nilS, Value.ownBlock] at hb, fun _ => rfl, fun j x hx => by simp at hx⟩

end

/-! ### The map -/

def Store (w : World) (S : Nat → Prop) (m : Nat) (L : List (List UInt8)) : Prop :=
  S m ∧ (∀ i, S i → i < w.heap.size) ∧ ∃ D : DataW Value, w.ownsMap Tryz.prog 59 Rv m L.length D ∧
    ∀ d kl, d.length = 32 → keyOf Tryz.prog 59 (.agg (cbs d).toArray) = some kl → ∃ v, D.atKey kl (.held nilS) = .held v ∧ Keeps w S v (grp d L)

theorem map_stay {w w' : World} {m n : Nat} {D : DataW Value} (h : w.ownsMap Tryz.prog 59 Rv m n D) (hk : w'.heap[m]? = w.heap[m]?) : w'.ownsMap Tryz.prog 59 Rv m n D := by
  obtain ⟨es, clock, h1, h2⟩ := h
  exact ⟨es, clock, hk.trans h1, h2⟩

theorem map_block {w : World} {m n : Nat} {D : DataW Value} (h : w.ownsMap Tryz.prog 59 Rv m n D) : ∃ es clock, w.heap[m]? = some (.map es clock) := by
  obtain ⟨es, clock, h1, _⟩ := h
  exact ⟨es, clock, h1⟩

section

variable {S S' : Nat → Prop} {w w' : World} {m : Nat} {L : List (List UInt8)}

theorem Store.stay (h : Store w S m L) (hz : w.heap.size ≤ w'.heap.size) (hk : ∀ i o, S i → w.heap[i]? = some o → (∀ cs fr, o ≠ .cells cs 93 fr) → w'.heap[i]? = some o) : Store w' S m L := by
  obtain ⟨h1, h2, D, h3, h4⟩ := h
  obtain ⟨es, clock, hm⟩ := map_block h3
  refine ⟨h1, fun i hi => Nat.lt_of_lt_of_le (h2 i hi) hz, D, map_stay h3 ((hk m _ h1 hm (fun cs fr e => by cases e)).trans hm.symm), fun d kl hd hkl => ?_⟩
  obtain ⟨v, e, hv⟩ := h4 d kl hd hkl
  exact ⟨v, e, hv.stay (fun _ hi => hi) (fun i cs hi hc => (hk i _ hi hc (fun cs' fr e => by injection e with _ e; cases e)).trans hc.symm)
    (fun b cs _ hb hc => (hk b _ hb hc (fun cs' fr e => by injection e with _ e; cases e)).trans hc.symm)⟩

theorem Store.look (h : Store w S m L) (d : List UInt8) (hd : d.length = 32) :
    ∃ v, (Instr.lookup 86 (.map (some m)) (.agg (cbs d).toArray) false).run Tryz.prog w = .ok v w ∧ Keeps w S v (grp d L) := by
  obtain ⟨kl, hkl⟩ := key_digest d hd
  obtain ⟨h1, h2, D, h3, h4⟩ := h
  obtain ⟨v, e, hv⟩ := h4 d kl hd hkl
  obtain ⟨v', ps, hrun, hR⟩ := h3.lookup keyed_digest Tryz.underlying86 (Tryz.zeroValue23 w) (zd := .held nilS) (zp := []) rfl hkl
  rw [e] at hR
  simp [Rv] at hR
  obtain ⟨rfl, _⟩ := hR
  exact ⟨v', hrun, hv⟩

theorem new_store (w : World) : Store (w.alloc (.map #[] 0)) (fun i => i = w.heap.size) w.heap.size [] :=
  ⟨rfl, fun i hi => by subst hi; simp, .map [], World.ownsMap_made w _ _ _, fun d kl hd hkl => ⟨nilS, rfl, Keeps.nil _ _⟩⟩

/-- What a store at a digest makes of the map: 'v' stood there, 'v'' is v with a new slice that shows x behind it. -/
theorem Store.put {w1 w2 : World} (h : Store w S m L) (hn : L.length < 1000000) (x : List UInt8) (v : Value) (cs : List Value)
    (hcs : w.ownsRow 0 22 1 v (grp (digest x) L).length cs) (hold : Keeps w S v (grp (digest x) L)) (hb1 : Below w.heap.size w w1) (hd : Value) (hhd : Mine w1 w.heap.size 5 hd x)
    (v' : Value) (hg : w1.grownBy w2 v.ownBlock) (hrow : w2.ownsRow 0 22 1 v' ((grp (digest x) L).length + 1) (cs ++ [hd])) (hloc : v'.ownBlock = v.ownBlock ∨ v'.ownBlock = some w1.heap.size) :
    ∃ w3, (Instr.mapUpdate 86 (.map (some m)) (.agg (cbs (digest x)).toArray) v').run Tryz.prog w2 = .ok () w3 ∧ w2.grownBy w3 (some m) ∧
      Store w3 (fun i => S i ∨ w.heap.size ≤ i ∧ i < w3.heap.size) m (L ++ [x]) := by
  have hdl : (digest x).length = 32 := by rw [digest_last]; rfl
  obtain ⟨kl, hkl⟩ := key_digest (digest x) hdl
  obtain ⟨h1, h2, D, h3, h4⟩ := h
  obtain ⟨es, clock, hm⟩ := map_block h3
  -- what stands in w2 of the old blocks
  have hrow' : ∀ i, v.ownBlock = some i → ∃ c, w.heap[i]? = some (.cells c 22 (0, 0)) := fun i hi => row_block hcs hi
  have st2 : ∀ i, S i → v.ownBlock ≠ some i → w2.heap[i]? = w.heap[i]? := fun i hi hne =>
    (hg.block i (Nat.lt_of_lt_of_le (h2 i hi) hb1.size) (fun e => hne e.symm)).trans (hb1.block i (h2 i hi))
  have hm2 : w2.heap[m]? = w.heap[m]? := st2 m h1 (fun e => by obtain ⟨c, hc⟩ := hrow' m e; rw [hm] at hc; cases hc)
  have h32 := map_stay h3 hm2
  obtain ⟨w3, hrun, hput, hg3⟩ := h32.update keyed_digest Tryz.underlying86 (by unfold maxLen; omega) (val := v') (d := .held v') (ps := []) hkl rfl
  have hsz : w.heap.size ≤ w3.heap.size := Nat.le_trans hb1.size (Nat.le_trans hg.size hg3.size)
  have st3 : ∀ i, i < w2.heap.size → i ≠ m → w3.heap[i]? = w2.heap[i]? := fun i hi hne => hg3.block i hi (fun e => hne (Option.some.inj e))
  have old3 : ∀ i, S i → i ≠ m → v.ownBlock ≠ some i → w3.heap[i]? = w.heap[i]? := fun i hi h5 h6 =>
    (st3 i (Nat.lt_of_lt_of_le (h2 i hi) (Nat.le_trans hb1.size hg.size)) h5).trans (st2 i hi h6)
  have byte3 : ∀ i c, S i → w.heap[i]? = some (.cells c 5 (0, 0)) → w3.heap[i]? = w.heap[i]? := fun i c hi hc => by
    refine old3 i hi ?_ ?_
    · rintro rfl; rw [hm] at hc; cases hc
    · intro e
      obtain ⟨c', hc'⟩ := hrow' i e
      rw [hc] at hc'
      injection hc' with e1
      injection e1 with _ e1
      cases e1
  have hD : IsMap D := by obtain ⟨_, _, _, _, _, e⟩ := h3; exact ⟨_, e⟩
  refine ⟨w3, hrun, hg3, .inl h1, fun i hi => ?_, D.put kl (.held v'), ?_, fun d kl' hdl' hkl' => ?_⟩
  · rcases hi with hi | hi
    · exact Nat.lt_of_lt_of_le (h2 i hi) hsz
    · exact hi.2
  · rw [List.length_append]; exact hput
  · by_cases hdd : d = digest x
    · subst hdd
      obtain rfl : kl' = kl := Option.some.inj (hkl'.symm.trans hkl)
      refine ⟨v', atKey_put_same hD (keyed_digest.key hkl) _ _, ?_⟩
      have e1 : grp (digest x) (L ++ [x]) = grp (digest x) L ++ [x] := by unfold grp; rw [List.filter_append]; simp
      rw [e1]
      have hrow3 : w3.ownsRow 0 22 1 v' ((grp (digest x) L).length + 1) (cs ++ [hd]) := row_stay hrow fun b c hb hc => st3 b (by
        rcases Nat.lt_or_ge b w2.heap.size with h | h
        · exact h
        · rw [Array.getElem?_eq_none h] at hc; cases hc) (by rintro rfl; rw [hm2, hm] at hc; cases hc)
      refine ⟨cs ++ [hd], by rw [List.length_append]; exact hrow3, fun b hb => ?_, fun e => by simp at e, fun j y hy => ?_⟩
      · rcases hloc with e | e
        · obtain ⟨_, _, k2, _⟩ := hold
          exact .inl (k2 b (e ▸ hb))
        · rw [e] at hb
          injection hb with hb
          subst hb
          have := (hrow3.lt _ e).2
          exact .inr ⟨hb1.size, this⟩
      · by_cases hj : j < (grp (digest x) L).length
        · rw [List.getElem?_append_left hj] at hy
          obtain ⟨cs0, k1, _, _, k4⟩ := hold
          obtain ⟨hh, e, hhd0⟩ := k4 j y hy
          have hcl : cs.length = (grp (digest x) L).length := by have := hcs.1; omega
          refine ⟨hh, ?_, hhd0.stay (fun i hi => .inl hi) byte3⟩
          rw [List.getElem?_append_left (by omega)]
          have hne : ∃ b, v.ownBlock = some b := by
            rcases hcs.2 with ⟨_, e0⟩ | ⟨g, cap, cur, rfl, _⟩
            · omega
            · exact ⟨g, rfl⟩
          obtain ⟨b, hb⟩ := hne
          have a1 := k1.cells hb j _ e
          have hjl : j < cs.length := by omega
          have a2 := hcs.cells hb j _ (List.getElem?_eq_getElem hjl)
          rw [List.getElem?_eq_getElem hjl, Option.some.inj (a2.symm.trans a1)]
        · have hcl : cs.length = (grp (digest x) L).length := by have := hcs.1; omega
          rw [List.getElem?_append_right (by omega)] at hy
          have hj0 : j - (grp (digest x) L).length = 0 := by
            rcases Nat.eq_zero_or_pos (j - (grp (digest x) L).length) with h | h
            · exact h
            · rw [List.getElem?_eq_none (by simp; omega)] at hy; cases hy
          rw [hj0] at hy
          injection hy with hy
          subst hy
          refine ⟨hd, ?_, ?_, fun b hb => ?_⟩
          · rw [List.getElem?_append_right (by omega), hcl, hj0]; rfl
          · have hm1 : Mine w1 0 5 hd x := row_base hhd (Nat.zero_le _)
            refine row_stay hm1 fun b c hb hc => ?_
            have hlt := (World.ownsRow.lt hhd b hb).2
            have hge := (World.ownsRow.lt hhd b hb).1
            have hbm : b ≠ m := by have := h2 m h1; omega
            have hbv : some b ≠ v.ownBlock := fun e => by have := (hcs.lt b e.symm).2; omega
            exact (st3 b (Nat.lt_of_lt_of_le hlt hg.size) hbm).trans (hg.block b hlt hbv)
          · have hlt := World.ownsRow.lt hhd b hb
            exact .inr ⟨hlt.1, Nat.lt_of_lt_of_le hlt.2 (Nat.le_trans hg.size hg3.size)⟩
    · obtain ⟨u, eu, hu⟩ := h4 d kl' hdl' hkl'
      have hkn : kl' ≠ kl := key_inj hkl hkl' hdd
      refine ⟨u, by rw [atKey_put_other hkn]; exact eu, ?_⟩
      have e1 : grp d (L ++ [x]) = grp d L := by
        unfold grp; rw [List.filter_append]
        have : (digest x == d) = false := beq_eq_false_iff_ne.2 fun e => hdd e.symm
        rw [List.filter_cons_of_neg (by rw [this]; decide), List.filter_nil, List.append_nil]
      rw [e1]
      refine hu.stay (fun i hi => .inl hi) byte3 fun b c hb hSb hc => old3 b hSb (by rintro rfl; rw [hm] at hc; cases hc) fun e => ?_
      have hx0 : grp (digest x) L ≠ [] := fun e0 => by
        obtain ⟨_, _, _, k3, _⟩ := hold
        rw [k3 e0] at e; simp [nilS, Value.ownBlock] at e
      have hy0 : grp d L ≠ [] := fun e0 => by
        obtain ⟨_, _, _, k3, _⟩ := hu
        rw [k3 e0] at hb; simp [nilS, Value.ownBlock] at hb
      obtain ⟨y, hy1, hy2⟩ := hold.apart hu e hb hx0 hy0
      unfold grp at hy1 hy2
      rw [List.mem_filter] at hy1 hy2
      have a1 := beq_iff_eq.1 hy1.2
      have a2 := beq_iff_eq.1 hy2.2
      exact hdd (a2.symm.trans a1)

end

end Go.Proofs.YtfaeechidjpjbaaGreat

namespace Go.Proofs.YtfaeechidjpjbaaGreat

open Go.RowKit

theorem size_cells (vs : List Value) : ∀ (w : World) (b o : Nat), (w.setCells b o vs).heap.size = w.heap.size := by
  induction vs with
  | nil => intro w b o; rfl
  | cons v vs ih => intro w b o; rw [World.setCells, ih]; simp [World.setCell]

end Go.Proofs.YtfaeechidjpjbaaGreat

namespace Go.Proofs.YtfaeechidjpjbaaGreat

open Go.ChangeShapes Go.WideShapes Go.ChangeAt Go.RowKit

set_option linter.unusedVariables false


def ci (x : Int) : Value := .int .i64 x

def cis (l : List Int) : List Value := l.map ci

theorem cis_length (l : List Int) : (cis l).length = l.length := by simp [cis]

theorem cis_get (l : List Int) (i : Nat) : (cis l)[i]? = (l[i]?).map ci := by simp [cis]

abbrev Wf (x : Int) : Prop := (Lit.int .i64 x).wf = true

theorem bounds_i64 {x : Int} (h : Wf x) : -9223372036854775808 ≤ x ∧ x ≤ 9223372036854775807 := by
  simp [Wf, Lit.wf, IntKind.min, IntKind.max, IntKind.signed, IntKind.bits] at h
  omega

/-- The slice 'A' of l.length elements shows the numbers 'l'. -/
def Is (w : World) (A : Option Addr) (l : List Int) : Prop := Shows w w.heap.size 1 A l.length (cis l)

theorem Is.after {w w' : World} {A : Option Addr} {l : List Int} (hb : Below w.heap.size w w') (h : Is w A l) : Is w' A l := Shows.on h hb

theorem Is.at_ {w : World} {A : Option Addr} {l : List Int} (h : Is w A l) {i : Nat} (hi : i < l.length) :
    ∃ b off, A = some ⟨b, off, none⟩ ∧ b < w.heap.size ∧ ∀ j (hj : j < l.length), w.cell? ⟨b, off + j, none⟩ = some (.int .i64 l[j]) := by
  obtain ⟨b, off, e, hb, hc⟩ := h.2 (by omega)
  refine ⟨b, off, e, hb, fun j hj => ?_⟩
  exact hc j _ (by rw [cis_get, List.getElem?_eq_getElem hj]; rfl)

def ArgI (w : World) (A : Option Addr) (n c : Nat) (l : List Int) : Prop := l.length = n ∧ n ≤ c ∧ c ≤ maxLen ∧ Is w A l ∧ ∀ x ∈ l, Wf x

theorem ArgI.after {w w' : World} {A : Option Addr} {n c : Nat} {l : List Int} (h : ArgI w A n c l) (hb : Below w.heap.size w w') : ArgI w' A n c l := ⟨h.1, h.2.1, h.2.2.1, h.2.2.2.1.after hb, h.2.2.2.2⟩

section

variable {H : Type} {enc : TypeId × Value → H} {w : World} {x : DataW H × List MemPlace} {cs : List Value} {fuel : Nat}

theorem spot_of {a : Addr} {v : Value} (h : w.cell? (a.add 0) = some v) : a.spot = none := by
  have := World.cell?_spot h
  unfold Addr.add at this
  simpa using this

theorem trodI (h : DataW.trod enc Tryz.prog w 0 (fun _ => true) true fuel 41 cs = some x) : ∃ A n c l, cs = [.slice A n c] ∧ ArgI w A n c l := by
  rcases open_ints Tryz.underlying41 Tryz.underlying3 (by kernel_rfl) h with ⟨rfl, _⟩ | ⟨a, n, c, zs, rfl, _, hl, hm, hz, _, hcell, hwz⟩
  · exact ⟨none, 0, 0, [], rfl, rfl, Nat.le_refl _, by simp [maxLen], Shows.empty _, fun _ h => by simp at h⟩
  · have hz' : zs.length = c := by simpa using hz
    refine ⟨some a, n, c, zs.take n, rfl, by simp; omega, hl, hm, ?_, fun z hz => hwz z (List.mem_of_mem_take hz)⟩
    refine ⟨by simp [cis], fun hn => ?_⟩
    simp at hn
    have hsp := spot_of (hcell 0 (by omega))
    obtain ⟨b, off, spot⟩ := a
    simp only at hsp
    subst hsp
    refine ⟨b, off, rfl, ?_, ?_⟩
    · have := World.block_lt_of_cell? w _ (hcell 0 (by omega))
      rw [add_mk] at this
      exact this
    · intro j u hu
      simp only [cis, List.getElem?_map, Option.map_eq_some_iff] at hu
      obtain ⟨z, hz1, rfl⟩ := hu
      have hj : j < n ∧ j < zs.length := by
        rcases Nat.lt_or_ge j (zs.take n).length with h | h
        · simp at h; omega
        · rw [List.getElem?_eq_none h] at hz1; cases hz1
      have hzz : zs[j]? = some z := by rw [List.getElem?_take, if_pos hj.1] at hz1; exact hz1
      have hcj := hcell j hj.2
      rw [add_mk] at hcj
      rw [hcj]
      have hg : zs.getD j 0 = z := by simp [List.getD, hzz]
      rw [hg]
      rfl

theorem openI {A : Option Addr} {n c : Nat} {d : DataW H} {p : List MemPlace} (h : DataW.Trod enc Tryz.prog w 0 (fun _ => true) true 41 (.slice A n c) d p) : ∃ l, ArgI w A n c l := by
  obtain ⟨fuel, hf⟩ := h
  obtain ⟨A', n', c', l, e, ha⟩ := trodI hf
  simp [Value.cells] at e
  obtain ⟨rfl, rfl, rfl⟩ := e
  exact ⟨l, ha⟩

end

theorem i64_info : (Tryz.prog.info? 3).map (fun i => (i.zero, i.size, i.bytes)) = some (some (.int .i64 0), 1, 8) := by kernel_rfl

theorem cis_one (l : List Int) : ∀ u ∈ cis l, u.oneCell' = true := by
  intro u hu; simp [cis] at hu; obtain ⟨x, _, rfl⟩ := hu; rfl

/-- A new slice that shows 'l', in a row made since the world 'w'. -/
def NewI (w : World) (l : List Int) (v : Value) (w' : World) : Prop := w'.ownsRow w.heap.size 3 1 v l.length (cis l) ∧ Below w.heap.size w w'

set_option maxRecDepth 100000 in
theorem run_copyI (w : World) (A : Option Addr) (n c : Nat) (l : List Int) (h : ArgI w A n c l) (hn : n ≤ 17592186043904) (ty : TypeId) :
    ∃ v' w', (Builtin.append_ #[41, 41] ty #[.slice none 0 0, .slice A n c]).run Tryz.prog w = .ok v' w' ∧ NewI w l v' w' := by
  obtain ⟨h1, h2, h3, h4, _⟩ := h
  subst h1
  obtain ⟨i0, hi, hz0, hz1, hz2⟩ := info_parts i64_info
  cases A with
  | none =>
    have hl : l = [] := by
      cases l with
      | nil => rfl
      | cons x t => obtain ⟨b, off, e, _⟩ := h4.at_ (i := 0) (by simp); cases e
    subst hl
    refine ⟨.slice none 0 0, w, ?_, World.ownsRow_nil _ _ _ _, Below.refl _ _⟩
    simp [Builtin.append_, run_underlying Tryz.underlying41, sizeOf, typeInfo, hi, Builtin.lenOf, Builtin.firstCells]
  | some ad =>
    have hcells : ∀ j u, (cis l)[j]? = some u → w.cell? (ad.add j) = some u := by
      intro j u hu
      have hj : j < l.length := by
        rcases Nat.lt_or_ge j l.length with h | h
        · exact h
        · rw [List.getElem?_eq_none (by rw [cis_length]; exact h)] at hu; cases hu
      obtain ⟨b, off, e, _, hc⟩ := h4.2 (by omega)
      injection e with e
      subst e
      rw [add_mk]
      exact hc j u hu
    obtain ⟨v', w', q1, q2, q3, _, q5⟩ := run_append_own_at (P := Tryz.prog) w w.heap.size 41 ty 3 i0 (.int .i64 0) 1 8 Tryz.underlying41 hi hz0 hz1 hz2 rfl (by decide) (.slice none 0 0) 0 [] (World.ownsRow_nil _ _ _ _) ad l.length c (cis l)
      (by rw [cis_length]; simp) hcells (cis_one l) (by simp only [maxLen]; omega) (by omega) (Nat.le_refl _)
    exact ⟨v', w', q1, by simpa using q2, (Below.refl _ _).grown q3 (Nat.le_refl _) (by simp [Value.ownBlock])⟩

theorem wp_copyI {w : World} {ops : Array Oper} {rest : List Oper} {o : Oper} {a : Act} {Q : Exit → Act → World → Prop} (hgd : o.guard = none) (s x : Operand)
    (ho : o.op = .call { callee := .builtin .append, args := #[s, x], argTypes := #[41, 41] }) (A : Option Addr) (n c : Nat) (l : List Int) (hs : a.eval s = .slice none 0 0) (hx : a.eval x = .slice A n c) (hA : ArgI w A n c l) (hn : n ≤ 17592186043904)
    (h : ∀ v' w', NewI w l v' w' → wpList Tryz.prog ops Q rest (a.put o.dst v') w') : wpList Tryz.prog ops Q (o :: rest) a w := by
  obtain ⟨v', w', hrun, h2⟩ := run_copyI w A n c l hA hn o.type
  refine wpList_plain hgd fun K hK => ?_
  unfold Oper.wp execOp
  simp only [ho, resolve, invoke, builtin, Sem.run_bind, Sem.run_pure, Result.andThen_ok, List.map_toArray, List.map_cons, List.map_nil, hs, hx, hrun]
  exact hK _ _ (h v' w' h2)

theorem copyInts_any (A : Option Addr) (n c : Nat) (l : List Int) (w : World) (h : ArgI w A n c l) (hn : n ≤ 17592186043904) : Calls Tryz.prog 78 #[.slice A n c] w fun e w' => ∃ v, e = .returned v ∧ NewI w l v w' := by
  have H := Lib.hid h
  clear h
  go_enter Tryz.func78, Tryz.ntmps78
  go_wp2_with (at_builtin; refine wp_copyI rfl _ _ rfl A n c l rfl rfl H.out hn ?_; intro v1 w1 hN)
  go_ret
  exact ⟨v1, rfl, hN⟩

set_option maxRecDepth 100000 in
set_option maxHeartbeats 800000 in
/-- Alike: EqInts of two slices that show one list. -/
theorem eqInts_same (A A' : Option Addr) (n c c' : Nat) (l : List Int) (w : World) (h : ArgI w A n c l) (h' : ArgI w A' n c' l) : Calls Tryz.prog 36 #[.slice A n c, .slice A' n c'] w fun e w' => e = .returned (.bool true) ∧ Below w.heap.size w w' := by
  have hcm := h.2.2.1
  unfold maxLen at hcm
  have hnc := h.2.1
  have hcm' := h'.2.2.1
  unfold maxLen at hcm'
  have hnc' := h'.2.1
  have hn63 : n ≤ 9223372036854775807 := by omega
  have H := Lib.hid (And.intro h h')
  clear h h'
  go_enter Tryz.func36, Tryz.ntmps36
  go_wp2
  go_loopw [5] (fun v wr => ∃ j : Nat, j ≤ n ∧ v = .int .i64 j ∧ Below w.heap.size w wr) (fun v _ => n - (intOf v).toNat)
  case atStart => exact ⟨0, Nat.zero_le _, rfl, Below.refl _ _⟩
  case round =>
    obtain ⟨j, hj, rfl, hb⟩ := hrel
    have hi0 : (0 : Int) ≤ j := by omega
    by_cases hlt : j < n
    · have hi1 : (j : Int) < n := by omega
      have hjl : j < l.length := by rw [H.out.1.1]; exact hlt
      obtain ⟨b1, o1, rfl, l1, q1⟩ := H.out.1.2.2.2.1.at_ hjl
      obtain ⟨b2, o2, rfl, l2, q2⟩ := H.out.2.2.2.2.1.at_ hjl
      have c1 : wr.cell? ⟨b1, o1 + j, none⟩ = some (.int .i64 l[j]) := (hb.cell (p := ⟨b1, o1 + j, none⟩) l1).trans (q1 j hjl)
      have c2 : wr.cell? ⟨b2, o2 + j, none⟩ = some (.int .i64 l[j]) := (hb.cell (p := ⟨b2, o2 + j, none⟩) l2).trans (q2 j hjl)
      have c1d : wr.drew.cell? ⟨b1, o1 + j, none⟩ = some (.int .i64 l[j]) := c1
      have c2d : wr.drew.cell? ⟨b2, o2 + j, none⟩ = some (.int .i64 l[j]) := c2
      generalize l[j] = x at *
      have Hb := Lib.hid hb
      clear hb q1 q2 hjl
      go_wp2
      go_quiet (fail)
      go_wp2
      go_roundw
      case rel => exact ⟨j + 1, by omega, by go_num, below_drewN Hb.out _⟩
      case measure => simp [intOf]; omega
    · have hi1 : ¬ (j : Int) < n := by omega
      have Hb := Lib.hid hb
      clear hb
      go_wp2
      go_ret
      exact ⟨rfl, Hb.out⟩

set_option maxRecDepth 100000 in
set_option maxHeartbeats 800000 in
/-- EqInts of two slices: whether they show the same list. -/
theorem eqInts_any (A A' : Option Addr) (n n' c c' : Nat) (l l' : List Int) (w : World) (h : ArgI w A n c l) (h' : ArgI w A' n' c' l') : Calls Tryz.prog 36 #[.slice A n c, .slice A' n' c'] w fun e w' => e = .returned (.bool (decide (l = l'))) ∧ Below w.heap.size w w' := by
  by_cases hnn : n = n'
  · subst hnn
    have hcm := h.2.2.1
    unfold maxLen at hcm
    have hnc := h.2.1
    have hcm' := h'.2.2.1
    unfold maxLen at hcm'
    have hnc' := h'.2.1
    have hl1 := h.1
    have hl2 := h'.1
    have hn63 : n ≤ 9223372036854775807 := by omega
    have H := Lib.hid (And.intro h h')
    clear h h'
    obtain ⟨r, hr⟩ : ∃ r, decide (l = l') = r := ⟨_, rfl⟩
    rw [hr]
    have Hr := Lib.hid hr
    clear hr
    go_enter Tryz.func36, Tryz.ntmps36
    go_wp2
    go_loopw [5] (fun v wr => ∃ j : Nat, j ≤ n ∧ v = .int .i64 j ∧ l.take j = l'.take j ∧ Below w.heap.size w wr) (fun v _ => n - (intOf v).toNat)
    case atStart => exact ⟨0, Nat.zero_le _, rfl, rfl, Below.refl _ _⟩
    case round =>
      obtain ⟨j, hj, rfl, heq, hb⟩ := hrel
      have hi0 : (0 : Int) ≤ j := by omega
      by_cases hlt : j < n
      · have hi1 : (j : Int) < n := by omega
        have hjl : j < l.length := by omega
        have hjl' : j < l'.length := by omega
        obtain ⟨b1, o1, rfl, l1, q1⟩ := H.out.1.2.2.2.1.at_ hjl
        obtain ⟨b2, o2, rfl, l2, q2⟩ := H.out.2.2.2.2.1.at_ hjl'
        have c1 : wr.cell? ⟨b1, o1 + j, none⟩ = some (.int .i64 l[j]) := (hb.cell (p := ⟨b1, o1 + j, none⟩) l1).trans (q1 j hjl)
        have c2 : wr.cell? ⟨b2, o2 + j, none⟩ = some (.int .i64 l'[j]) := (hb.cell (p := ⟨b2, o2 + j, none⟩) l2).trans (q2 j hjl')
        have c1d : wr.drew.cell? ⟨b1, o1 + j, none⟩ = some (.int .i64 l[j]) := c1
        have c2d : wr.drew.cell? ⟨b2, o2 + j, none⟩ = some (.int .i64 l'[j]) := c2
        have hs1 := List.take_succ_eq_append_getElem hjl
        have hs2 := List.take_succ_eq_append_getElem hjl'
        have hno : l[j] ≠ l'[j] → r = false := fun hne => by
          rw [← Hr.out, decide_eq_false_iff_not]
          rintro rfl; exact hne rfl
        have Hs := Lib.hid (And.intro hs1 (And.intro hs2 (And.intro hno heq)))
        clear hs1 hs2 hno heq q1 q2
        generalize l[j] = x at *
        generalize l'[j] = y at *
        clear hjl hjl'
        have Hb := Lib.hid hb
        clear hb
        by_cases hxy : x = y
        · subst hxy
          have hne : (x != x) = false := by simp
          go_wp2
          go_quiet (fail)
          go_wp2
          go_roundw
          case rel => exact ⟨j + 1, by omega, by go_num, by rw [Hs.out.1, Hs.out.2.1, Hs.out.2.2.2], below_drewN Hb.out _⟩
          case measure => simp [intOf]; omega
        · have hne : (x != y) = true := by simp [hxy]
          have hrf := Hs.out.2.2.1 hxy
          subst hrf
          have Hxy := Lib.hid hxy
          clear hxy
          go_wp2
          go_quiet (fail)
          go_wp2
          go_ret
          exact ⟨rfl, below_drewN Hb.out _⟩
      · have hi1 : ¬ (j : Int) < n := by omega
        have hjn : j = n := by omega
        rw [List.take_of_length_le (by omega), List.take_of_length_le (by omega)] at heq
        have hrt : r = true := by rw [← Hr.out, heq]; simp
        subst hrt
        have Hb := Lib.hid hb
        clear hb heq
        go_wp2
        go_ret
        exact ⟨rfl, Hb.out⟩
  · have hl1 := h.1
    have hl2 := h'.1
    have hne : ((n : Int) != (n' : Int)) = true := by simp; omega
    have e : decide (l = l') = false := by
      rw [decide_eq_false_iff_not]
      rintro rfl; omega
    rw [e]
    clear e
    have H := Lib.hid (And.intro h h')
    clear h h'
    go_enter Tryz.func36, Tryz.ntmps36
    go_wp2
    go_ret
    exact ⟨rfl, Below.refl _ _⟩

set_option maxHeartbeats 800000 in
/-- Bring to n: some number from 0 to n - 1, always the same. -/
theorem bring_ex (i n : Int) (h : 0 < n) (hn : n ≤ 4611686018427387904) (hi : Wf i) : ∃ r : Int, 0 ≤ r ∧ r < n ∧ ∀ w, Calls Tryz.prog 24 #[.int .i64 i, .int .i64 n] w fun e w' => e = .returned (.int .i64 r) ∧ w' = w := by
  have hb := bounds_i64 hi
  clear hi
  have hz : (n == 0) = false := by simp; omega
  by_cases h0 : 0 ≤ i
  · have hm0 := Int.emod_nonneg i (by omega : n ≠ 0)
    have hm1 := Int.emod_lt_of_pos i h
    have ht : i.tmod n = i % n := Int.tmod_eq_emod_of_nonneg h0
    obtain ⟨r, hr⟩ : ∃ r, i % n = r := ⟨_, rfl⟩
    rw [hr] at ht hm0 hm1
    refine ⟨r, hm0, hm1, fun w => ?_⟩
    have Hr := Lib.hid hr
    clear hr
    go_enter Tryz.func24, Tryz.ntmps24
    go_wp2
    go_ret
    exact ⟨by first | rfl | (simp [Hr.out]), rfl⟩
  · have e1 : (-i).tmod n = -(i.tmod n) := Int.neg_tmod i n
    have e2 : (-i).tmod n = (-i) % n := Int.tmod_eq_emod_of_nonneg (by omega)
    have hm0 := Int.emod_nonneg (-i) (by omega : n ≠ 0)
    have hm1 := Int.emod_lt_of_pos (-i) h
    have hl0 : i.tmod n ≤ 0 := by omega
    have hl1 : -n < i.tmod n := by omega
    clear hm0 hm1 e1 e2
    obtain ⟨m, hm⟩ : ∃ m, i.tmod n = m := ⟨_, rfl⟩
    rw [hm] at hl0 hl1
    by_cases hs : m < 0
    · refine ⟨m + n, by omega, by omega, fun w => ?_⟩
      have hw : IntKind.i64.wrap (m + n) = m + n := IntWalk.i64_in _ (by omega)
      go_enter Tryz.func24, Tryz.ntmps24
      go_wp2
      go_ret
      exact ⟨rfl, rfl⟩
    · refine ⟨m, by omega, by omega, fun w => ?_⟩
      go_enter Tryz.func24, Tryz.ntmps24
      go_wp2
      go_ret
      exact ⟨rfl, rfl⟩

/-- Bring to n: some number from 0 to n - 1. -/
theorem bringN_any (i n : Int) (w : World) (h : 0 < n) (hn : n ≤ 1000000) (hi : Wf i) : Calls Tryz.prog 24 #[.int .i64 i, .int .i64 n] w fun e w' => ∃ r : Int, 0 ≤ r ∧ r < n ∧ e = .returned (.int .i64 r) ∧ w' = w := by
  obtain ⟨r, h1, h2, h3⟩ := bring_ex i n h (by omega) hi
  exact (h3 w).mono fun e w' ⟨he, hw⟩ => ⟨r, h1, h2, he, hw⟩

end Go.Proofs.YtfaeechidjpjbaaGreat

namespace Go.Proofs.YtfaeechidjpjbaaGreat

open Go.RowKit

set_option linter.unusedVariables false

/-- A wish whose lists are shown by two slices. -/
def ArgW (w : World) (x : Wl) (D : Option Addr) (nd cd : Nat) (N : Option Addr) (nn cn : Nat) : Prop :=
  (x.da.length = nd ∧ nd ≤ cd ∧ cd ≤ maxLen ∧ Bs w D x.da ∧ nd ≤ 140737488351232) ∧ (ArgI w N nn cn x.nx ∧ nn ≤ 17592186043904) ∧ Wf x.cl ∧ Wf x.sp ∧ Wf x.gr ∧ Wf x.ep ∧ Wf x.kd ∧ Wf x.bl ∧ Wf x.od ∧ Wf x.nw

theorem ArgW.after {w w' : World} {x : Wl} {D : Option Addr} {nd cd : Nat} {N : Option Addr} {nn cn : Nat} (h : ArgW w x D nd cd N nn cn) (hb : Below w.heap.size w w') : ArgW w' x D nd cd N nn cn :=
  ⟨⟨h.1.1, h.1.2.1, h.1.2.2.1, h.1.2.2.2.1.after hb, h.1.2.2.2.2⟩, ⟨h.2.1.1.after hb, h.2.1.2⟩, h.2.2⟩

/-- A wish in a box made since the world 'w'. -/
structure Wx (w W : World) (x : Wl) (D : Option Addr) (nd cd : Nat) (N : Option Addr) (nn cn : Nat) : Prop where
  blk : Blk W w.heap.size 45 [.int .i64 x.cl, .int .i64 x.sp, .int .i64 x.gr, .int .i64 x.ep, .int .i64 x.kd, .int .i64 x.bl, .slice D nd cd, .int .i64 x.od, .int .i64 x.nw, .slice N nn cn]
  bel : Below w.heap.size w W

section

variable {w W W' : World} {x : Wl} {D : Option Addr} {nd cd : Nat} {N : Option Addr} {nn cn : Nat}

theorem Wx.new : Wx w (w.alloc (.cells #[.int .i64 x.cl, .int .i64 x.sp, .int .i64 x.gr, .int .i64 x.ep, .int .i64 x.kd, .int .i64 x.bl, .slice D nd cd, .int .i64 x.od, .int .i64 x.nw, .slice N nn cn] 45)) x D nd cd N nn cn :=
  ⟨Blk.new rfl rfl, (Below.refl _ _).alloc (Nat.le_refl _) _⟩

theorem Wx.on (h : Wx w W x D nd cd N nn cn) (hb : Below W.heap.size W W') : Wx w W' x D nd cd N nn cn := ⟨h.blk.below hb h.blk.lt, h.bel.trans (hb.mono h.bel.size)⟩

theorem Wx.ks (h : Wx w W x D nd cd N nn cn) : (W.cell? ⟨w.heap.size, 0, none⟩ = some (.int .i64 x.cl) ∧ W.cell? ⟨w.heap.size, 1, none⟩ = some (.int .i64 x.sp) ∧ W.cell? ⟨w.heap.size, 2, none⟩ = some (.int .i64 x.gr) ∧ W.cell? ⟨w.heap.size, 3, none⟩ = some (.int .i64 x.ep) ∧ W.cell? ⟨w.heap.size, 4, none⟩ = some (.int .i64 x.kd)) ∧
    W.cell? ⟨w.heap.size, 5, none⟩ = some (.int .i64 x.bl) ∧ W.cell? ⟨w.heap.size, 6, none⟩ = some (.slice D nd cd) ∧ W.cell? ⟨w.heap.size, 7, none⟩ = some (.int .i64 x.od) ∧ W.cell? ⟨w.heap.size, 8, none⟩ = some (.int .i64 x.nw) ∧ W.cell? ⟨w.heap.size, 9, none⟩ = some (.slice N nn cn) :=
  ⟨⟨h.blk.cell rfl, h.blk.cell rfl, h.blk.cell rfl, h.blk.cell rfl, h.blk.cell rfl⟩, h.blk.cell rfl, h.blk.cell rfl, h.blk.cell rfl, h.blk.cell rfl, h.blk.cell rfl⟩

end

end Go.Proofs.YtfaeechidjpjbaaGreat

namespace Go.Proofs.YtfaeechidjpjbaaGreat

open Go.RowKit

set_option linter.unusedVariables false

set_option linter.unusedSimpArgs false

theorem ret_b {a b : Bool} (h : a = true ↔ b = true) : Ending.returned (.bool a) = .returned (.bool b) := by rw [Bool.eq_iff_iff.2 h]

theorem ret_b0 {b : Bool} (h : ¬ b = true) : Ending.returned (.bool false) = .returned (.bool b) := by rw [Bool.eq_false_iff.2 h]

theorem ret_b1 {b : Bool} (h : b = true) : Ending.returned (.bool true) = .returned (.bool b) := by rw [h]

theorem within_any (n a b : Int) (w : World) : Calls Tryz.prog 115 #[.int .i64 n, .int .i64 a, .int .i64 b] w fun e w' => e = .returned (.bool (decide (a ≤ n ∧ n ≤ b))) ∧ w = w' := by
  go_enter Tryz.func115, Tryz.ntmps115
  go_wp2
  all_goals go_ret
  all_goals first | exact ⟨ret_b (by simp only [Bool.and_eq_true, decide_eq_true_eq]; omega), rfl⟩ | exact ⟨ret_b0 (by simp only [Bool.and_eq_true, decide_eq_true_eq]; omega), rfl⟩

theorem chunk_any (n : Int) (w : World) : Calls Tryz.prog 131 #[.int .i64 n] w fun e w' => e = .returned (.bool (decide (1 ≤ n ∧ n ≤ 2))) ∧ w = w' := by
  go_enter Tryz.func131, Tryz.ntmps131
  go_wp2_with (go_at_call 115; refine (within_any _ _ _ _).mono ?_; rintro e w' ⟨rfl, rfl⟩)
  go_ret
  exact ⟨ret_b (by simp only [Bool.and_eq_true, decide_eq_true_eq]), rfl⟩

theorem node_any (n : Int) (w : World) : Calls Tryz.prog 132 #[.int .i64 n] w fun e w' => e = .returned (.bool (decide (1 ≤ n ∧ n ≤ 28))) ∧ w = w' := by
  go_enter Tryz.func132, Tryz.ntmps132
  go_wp2_with (go_at_call 115; refine (within_any _ _ _ _).mono ?_; rintro e w' ⟨rfl, rfl⟩)
  go_ret
  exact ⟨ret_b (by simp only [Bool.and_eq_true, decide_eq_true_eq]), rfl⟩

section

variable (x : Wl) (Dx : Option Addr) (ndx cdx : Nat) (Nx : Option Addr) (nnx cnx : Nat) (w : World)

theorem asked_any : Calls Tryz.prog 116 #[.agg #[.int .i64 x.cl, .int .i64 x.sp, .int .i64 x.gr, .int .i64 x.ep, .int .i64 x.kd, .int .i64 x.bl, .slice Dx ndx cdx, .int .i64 x.od, .int .i64 x.nw, .slice Nx nnx cnx]] w fun e w' => e = .returned (.bool (decide (Askd x))) ∧ Below w.heap.size w w' := by
  go_enter Tryz.func116, Tryz.ntmps116
  go_wp2_with (go_at_call 115; refine (within_any _ _ _ _).mono ?_; rintro e w' ⟨rfl, rfl⟩)
  all_goals go_ret
  all_goals first | exact ⟨ret_b (by simp only [Bool.and_eq_true, decide_eq_true_eq]; omega), (Below.refl _ _).alloc (Nat.le_refl _) _⟩ | exact ⟨ret_b0 (by simp only [Bool.and_eq_true, decide_eq_true_eq]; omega), (Below.refl _ _).alloc (Nat.le_refl _) _⟩

theorem ofBlock_any : Calls Tryz.prog 117 #[.agg #[.int .i64 x.cl, .int .i64 x.sp, .int .i64 x.gr, .int .i64 x.ep, .int .i64 x.kd, .int .i64 x.bl, .slice Dx ndx cdx, .int .i64 x.od, .int .i64 x.nw, .slice Nx nnx cnx]] w fun e w' => e = .returned (.bool (decide (OfBl x))) ∧ Below w.heap.size w w' := by
  go_enter Tryz.func117, Tryz.ntmps117
  go_wp2_with (first | (go_at_call 115; refine (within_any _ _ _ _).mono ?_; rintro e w' ⟨rfl, rfl⟩) | (go_at_call 131; refine (chunk_any _ _).mono ?_; rintro e w' ⟨rfl, rfl⟩))
  all_goals go_ret
  all_goals first | exact ⟨ret_b (by simp only [Bool.and_eq_true, decide_eq_true_eq]; omega), (Below.refl _ _).alloc (Nat.le_refl _) _⟩ | exact ⟨ret_b0 (by simp only [Bool.and_eq_true, decide_eq_true_eq]; omega), (Below.refl _ _).alloc (Nat.le_refl _) _⟩

theorem ofDirectory_any : Calls Tryz.prog 119 #[.agg #[.int .i64 x.cl, .int .i64 x.sp, .int .i64 x.gr, .int .i64 x.ep, .int .i64 x.kd, .int .i64 x.bl, .slice Dx ndx cdx, .int .i64 x.od, .int .i64 x.nw, .slice Nx nnx cnx]] w fun e w' => e = .returned (.bool (decide (OfDr x))) ∧ Below w.heap.size w w' := by
  go_enter Tryz.func119, Tryz.ntmps119
  go_wp2_with (first | (go_at_call 115; refine (within_any _ _ _ _).mono ?_; rintro e w' ⟨rfl, rfl⟩) | (go_at_call 131; refine (chunk_any _ _).mono ?_; rintro e w' ⟨rfl, rfl⟩))
  all_goals go_ret
  all_goals first | exact ⟨ret_b (by simp only [Bool.and_eq_true, decide_eq_true_eq]; omega), (Below.refl _ _).alloc (Nat.le_refl _) _⟩ | exact ⟨ret_b0 (by simp only [Bool.and_eq_true, decide_eq_true_eq]; omega), (Below.refl _ _).alloc (Nat.le_refl _) _⟩

theorem swap_any : Calls Tryz.prog 120 #[.agg #[.int .i64 x.cl, .int .i64 x.sp, .int .i64 x.gr, .int .i64 x.ep, .int .i64 x.kd, .int .i64 x.bl, .slice Dx ndx cdx, .int .i64 x.od, .int .i64 x.nw, .slice Nx nnx cnx]] w fun e w' => e = .returned (.bool (decide (Swp x))) ∧ Below w.heap.size w w' := by
  go_enter Tryz.func120, Tryz.ntmps120
  go_wp2_with (first | (go_at_call 132; refine (node_any _ _).mono ?_; rintro e w' ⟨rfl, rfl⟩) | (go_at_call 131; refine (chunk_any _ _).mono ?_; rintro e w' ⟨rfl, rfl⟩))
  all_goals go_ret
  all_goals first | exact ⟨ret_b (by simp only [Bool.and_eq_true, decide_eq_true_eq, bne_iff_ne, ne_eq]; omega), (Below.refl _ _).alloc (Nat.le_refl _) _⟩ | exact ⟨ret_b0 (by simp only [Bool.and_eq_true, decide_eq_true_eq, bne_iff_ne, ne_eq]; omega), (Below.refl _ _).alloc (Nat.le_refl _) _⟩

theorem noSwap_any : Calls Tryz.prog 118 #[.agg #[.int .i64 x.cl, .int .i64 x.sp, .int .i64 x.gr, .int .i64 x.ep, .int .i64 x.kd, .int .i64 x.bl, .slice Dx ndx cdx, .int .i64 x.od, .int .i64 x.nw, .slice Nx nnx cnx]] w fun e w' => e = .returned (.bool (decide (NoS x))) ∧ Below w.heap.size w w' := by
  go_enter Tryz.func118, Tryz.ntmps118
  go_wp2
  all_goals go_ret
  all_goals first | exact ⟨ret_b (by simp only [Bool.and_eq_true, decide_eq_true_eq, beq_iff_eq]; omega), (Below.refl _ _).alloc (Nat.le_refl _) _⟩ | exact ⟨ret_b0 (by simp only [Bool.and_eq_true, decide_eq_true_eq, beq_iff_eq]; omega), (Below.refl _ _).alloc (Nat.le_refl _) _⟩

abbrev SealF (x : Wl) : Prop := x.cl = 0 ∧ x.sp = 0 ∧ (1 ≤ x.gr ∧ x.gr ≤ 2) ∧ x.bl = 0

theorem seal_any : Calls Tryz.prog 121 #[.agg #[.int .i64 x.cl, .int .i64 x.sp, .int .i64 x.gr, .int .i64 x.ep, .int .i64 x.kd, .int .i64 x.bl, .slice Dx ndx cdx, .int .i64 x.od, .int .i64 x.nw, .slice Nx nnx cnx]] w fun e w' => e = .returned (.bool (decide (SealF x))) ∧ Below w.heap.size w w' := by
  go_enter Tryz.func121, Tryz.ntmps121
  go_wp2_with (first | (go_at_call 115; refine (within_any _ _ _ _).mono ?_; rintro e w' ⟨rfl, rfl⟩) | (go_at_call 131; refine (chunk_any _ _).mono ?_; rintro e w' ⟨rfl, rfl⟩))
  all_goals go_ret
  all_goals first | exact ⟨ret_b (by simp only [Bool.and_eq_true, decide_eq_true_eq, beq_iff_eq]; omega), (Below.refl _ _).alloc (Nat.le_refl _) _⟩ | exact ⟨ret_b0 (by simp only [Bool.and_eq_true, decide_eq_true_eq, beq_iff_eq]; omega), (Below.refl _ _).alloc (Nat.le_refl _) _⟩

end

end Go.Proofs.YtfaeechidjpjbaaGreat
