/-
  A ledger in memory: its map, key by key.
-/
import Derived.Test.YtkmijmlcijbbcaaDeeds
import Derived.Maps.OwnSet
import Derived.DeepKeys4
import Derived.Laws.Tables
namespace Go.Proofs.Ytkmijmlcijbbcaa
open Go.RowKit Go.Maps
set_option linter.unusedVariables false

/-! ### The key: a tag -/
theorem mapM_some {α β : Type} (f : α → Option β) : ∀ l : List α, (∀ a ∈ l, ∃ b, f a = some b) → ∃ r, l.mapM f = some r
  | [], _ => ⟨[], rfl⟩
  | a :: l, h => by
    obtain ⟨b, hb⟩ := h a (by simp)
    obtain ⟨r, hr⟩ := mapM_some f l (fun x hx => h x (by simp [hx]))
    exact ⟨b :: r, by simp [List.mapM_cons, hb, hr]⟩

theorem keyType_triple : Try.prog.keyType 56 = true := by kernel_rfl
theorem cells_u8 : Try.prog.cellsOf 5 = 1 := by kernel_rfl
theorem cells_int : Try.prog.cellsOf 3 = 1 := by kernel_rfl
theorem cells_digest : Try.prog.cellsOf 28 = 32 := by kernel_rfl
theorem cells_triple : Try.prog.cellsOf 56 = 34 := by kernel_rfl
theorem types_more : ∃ k, Try.prog.types.size + 1 = k + 3 := ⟨Try.prog.types.size - 2, by kernel_rfl⟩
theorem keyed_triple : Keyed Try.prog 56 := Keyed.of_law (deep_law_laid (by kernel_rfl) (m := 5) (by decide) (by decide +kernel) (by kernel_rfl) (by rw [Try.underlying56]))

theorem wf_byte (x : UInt8) : (Lit.int .u8 (x.toNat : Int)).wf = true := by
  have := x.toNat_lt
  have h1 : (0 : Int) ≤ x.toNat := by omega
  have h2 : (x.toNat : Int) ≤ 255 := by omega
  simp [Lit.wf, IntKind.min, IntKind.max, IntKind.signed, IntKind.bits, h1, h2]
  try omega

def tcells (f t : Int) (d : List UInt8) : List Value := ci f :: ci t :: cbs d
theorem tcells_len (f t : Int) (d : List UInt8) (h : d.length = 32) : (tcells f t d).length = 34 := by simp [tcells, cbs_length, h]

theorem lits_int (k : Nat) (x : Int) (hx : Wf x) : ∃ ls, Try.prog.keyLits (k + 1) 3 [ci x] = some ls := by
  unfold Program.keyLits
  simp only [Try.underlying3, ci]
  rw [if_pos ⟨trivial, hx⟩]
  exact ⟨_, rfl⟩
theorem lits_digest (k : Nat) (d : List UInt8) (h : d.length = 32) : ∃ ls, Try.prog.keyLits (k + 2) 28 (cbs d) = some ls := by
  unfold Program.keyLits
  simp only [Try.underlying28, cells_digest, cbs_length, h, if_true, cells_u8]
  obtain ⟨r, hr⟩ := mapM_some (fun i => Try.prog.keyLits (k + 1) 5 (((cbs d).drop (i * 1)).take 1)) (List.range 32) (fun i hi => by
    have hi' : i < d.length := by rw [h]; simpa using hi
    have e1 : ((cbs d).drop (i * 1)).take 1 = [cb d[i]] := by
      rw [Nat.mul_one, List.drop_eq_getElem_cons (by rw [cbs_length]; exact hi')]
      simp [cbs]
    rw [e1]
    unfold Program.keyLits
    simp only [Try.underlying5, cb]
    rw [if_pos ⟨trivial, wf_byte d[i]⟩]
    exact ⟨_, rfl⟩)
  rw [hr]
  exact ⟨_, rfl⟩

theorem key_triple (f t : Int) (d : List UInt8) (hf : Wf f) (ht : Wf t) (h : d.length = 32) : ∃ kl, keyOf Try.prog 56 (.agg (tcells f t d).toArray) = some kl := by
  obtain ⟨k, hk⟩ := types_more
  have hfm : Value.formed Try.prog 56 (.agg (tcells f t d).toArray) = true := by
    unfold Value.formed
    rw [Try.underlying56, cells_triple]
    simp [tcells, cbs_length, h]
  have hl : ∃ ls, Try.prog.keyLits (k + 3) 56 (tcells f t d) = some ls := by
    unfold Program.keyLits
    rw [Try.underlying56]
    dsimp only
    rw [if_pos ⟨by rw [tcells_len f t d h, cells_triple], by simp⟩]
    obtain ⟨l1, h1⟩ := lits_int (k + 1) f hf
    obtain ⟨l2, h2⟩ := lits_int (k + 1) t ht
    obtain ⟨l3, h3⟩ := lits_digest k d h
    have e3 : (cbs d).take 32 = cbs d := List.take_of_length_le (by rw [cbs_length]; omega)
    simp [List.mapM_cons, cells_int, cells_digest, tcells, h1, h2, h3, e3]
  obtain ⟨ls, hls⟩ := hl
  refine ⟨.string (keyBytes ls), ?_⟩
  unfold keyOf
  rw [Try.underlying56]
  simp only [keyType_triple, hfm, Bool.and_self, if_true, hk]
  show Option.map _ (Try.prog.keyLits (k + 3) 56 (tcells f t d)) = _
  rw [hls]
  rfl

theorem cbs_inj {l m : List UInt8} (h : cbs l = cbs m) : l = m := by
  have := congrArg (List.map fun v => match v with | Value.int _ n => UInt8.ofNat n.toNat | _ => 0) h
  simpa [cbs, cb, Function.comp_def] using this
theorem tcells_inj {f t f' t' : Int} {d d' : List UInt8} (h : tcells f t d = tcells f' t' d') : (f, t, d) = (f', t', d') := by
  unfold tcells ci at h
  injection h with h1 h
  injection h with h2 h
  injection h1 with _ h1
  injection h2 with _ h2
  rw [h1, h2, cbs_inj h]
theorem tkey_inj {f t f' t' : Int} {d d' : List UInt8} {kl : Lit} (h : keyOf Try.prog 56 (.agg (tcells f t d).toArray) = some kl) (h' : keyOf Try.prog 56 (.agg (tcells f' t' d').toArray) = some kl) : (f, t, d) = (f', t', d') := by
  have := keyed_triple.inj h h'
  injection this with e
  exact tcells_inj (by have := congrArg Array.toList e; simpa using this)

/-! ### The map -/
def Led (w : World) (m : Nat) (T : List Tg) : Prop := ∃ D : DataW Value, w.ownsMap Try.prog 56 unitElem m T.length D ∧ Maps.size D = T.length ∧
  ∀ f t d kl, Wf f → Wf t → d.length = 32 → keyOf Try.prog 56 (.agg (tcells f t d).toArray) = some kl → Maps.has D kl = inT T f t d

theorem unit_zero (w : World) : (zeroValue 44).run Try.prog w = .ok (.agg #[]) w := by kernel_rfl

section
variable {w w' : World} {m : Nat} {T : List Tg}
theorem Led.lt (h : Led w m T) : m < w.heap.size := by obtain ⟨_, h, _⟩ := h; exact h.lt
theorem Led.stay (h : Led w m T) (hk : w'.heap[m]? = w.heap[m]?) : Led w' m T := by
  obtain ⟨D, ⟨es, clock, h1, h2⟩, h3⟩ := h
  exact ⟨D, ⟨es, clock, hk.trans h1, h2⟩, h3⟩
theorem Led.look (h : Led w m T) (f t : Int) (d : List UInt8) (hf : Wf f) (ht : Wf t) (hd : d.length = 32) :
    (Instr.lookup 43 (.map (some m)) (.agg (tcells f t d).toArray) true).run Try.prog w = .ok (.tuple #[.agg #[], .bool (inT T f t d)]) w := by
  obtain ⟨kl, hkl⟩ := key_triple f t d hf ht hd
  obtain ⟨D, h1, h2, h3⟩ := h
  obtain ⟨v, ps, hrun, hR⟩ := h1.look_ok keyed_triple Try.underlying43 (unit_zero w) unitElem_mk hkl
  obtain ⟨rfl, _⟩ := unitElem_inv hR
  rw [hrun, h3 f t d kl hf ht hd hkl]
theorem Led.len (h : Led w m T) (ty : TypeId) : (Builtin.len_ #[43] ty #[.map (some m)]).run Try.prog w = .ok (.int .i64 (T.length : Int)) w := by
  obtain ⟨D, h1, h2, _⟩ := h
  rw [h1.len Try.underlying43, h2]
theorem Led.put (h : Led w m T) (hn : T.length < 1000000) (f t : Int) (d : List UInt8) (hf : Wf f) (ht : Wf t) (hd : d.length = 32) :
    ∃ w', (Instr.mapUpdate 43 (.map (some m)) (.agg (tcells f t d).toArray) (.agg #[])).run Try.prog w = .ok () w' ∧ w.grownBy w' (some m) ∧ w'.heap.size = w.heap.size ∧ Led w' m (putT T (f, t, d)) := by
  obtain ⟨kl, hkl⟩ := key_triple f t d hf ht hd
  obtain ⟨D, h1, h2, h3⟩ := h
  obtain ⟨w', hrun, hown, hturn⟩ := h1.store keyed_triple Try.underlying43 (by unfold maxLen; omega) hkl (unitElem_mk)
  have hs : w'.heap.size = w.heap.size := by obtain ⟨_, _, _, _, _, rfl⟩ := hturn; simp [Go.ChangeMaps.setBlock]
  have htd := h1.tidy keyed_triple
  have hsz := size_put (k := kl) htd (.agg [])
  have hhas := h3 f t d kl hf ht hd hkl
  have hsz' : Maps.size (D.put kl (.agg [])) = (putT T (f, t, d)).length := by
    rw [hsz, h2, hhas]
    unfold inT putT
    by_cases hm : (f, t, d) ∈ T <;> simp [hm]
  refine ⟨w', hrun, hturn.grown, hs, D.put kl (.agg []), ?_, hsz', fun f' t' d' kl' hf' ht' hd' hkl' => ?_⟩
  · rw [← hsz']
    obtain ⟨es, clock, q1, q2, q3, q4⟩ := hown
    refine ⟨es, clock, q1, q2, ?_, q4⟩
    rw [q4]; simp [Maps.size, length_sorted]
  · by_cases he : (f', t', d') = (f, t, d)
    · injection he with e1 e2
      injection e2 with e2 e3
      subst e1; subst e2; subst e3
      obtain rfl : kl' = kl := Option.some.inj (hkl'.symm.trans hkl)
      rw [has_put_same htd.isMap (keyed_triple.key hkl)]
      unfold inT
      simp [putT_mem]
    · have hne : kl' ≠ kl := by rintro rfl; exact he (tkey_inj hkl' hkl)
      rw [has_put_other hne, h3 f' t' d' kl' hf' ht' hd' hkl']
      unfold inT
      simp [putT_mem, he]
theorem new_led (w : World) : Led (w.alloc (.map #[] 0)) w.heap.size [] :=
  ⟨.map [], World.ownsMap_made w _ _ _, rfl, fun f t d kl _ _ _ _ => by simp [inT, Maps.has]⟩
end

/-! ### The ledger -/
def lcells (m k : Nat) : List Value := [.map (some m), .int .i64 (k : Int)]
/-- A ledger in memory: its tags, and how often Check was asked. -/
def LedAt (w : World) (g m : Nat) (T : List Tg) (k : Nat) : Prop := Blk w g 50 (lcells m k) ∧ Led w m T
theorem LedAt.ne {w : World} {g m : Nat} {T : List Tg} {k : Nat} (h : LedAt w g m T k) : g ≠ m := by
  obtain ⟨h1, D, ⟨es, clock, h2, _⟩, _⟩ := h
  rintro rfl
  unfold Blk at h1
  rw [h2] at h1
  cases h1
theorem LedAt.stay {w w' : World} {g m : Nat} {T : List Tg} {k : Nat} (h : LedAt w g m T k) (hg : w'.heap[g]? = w.heap[g]?) (hm : w'.heap[m]? = w.heap[m]?) : LedAt w' g m T k := ⟨hg.trans h.1, h.2.stay hm⟩
theorem LedAt.below {w w' : World} {g m : Nat} {T : List Tg} {k : Nat} (h : LedAt w g m T k) (hb : Below w.heap.size w w') : LedAt w' g m T k := h.stay (hb.block g h.1.lt) (hb.block m h.2.lt)
theorem LedAt.out {w w' : World} {g m : Nat} {T : List Tg} {k : Nat} {S : Nat → Prop} (h : LedAt w g m T k) (ho : Out S w w') (hg : ¬ S g) (hm : ¬ S m) : LedAt w' g m T k := h.stay (ho.block g h.1.lt hg) (ho.block m h.2.lt hm)
end Go.Proofs.Ytkmijmlcijbbcaa
