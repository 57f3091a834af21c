/-
  Books that are none: nil, or one that New did not make.
-/
import Derived.Test.YtamfjnomkefddaaBks
import Derived.Deep.OwnRows
namespace Go.Proofs.Ytamfjnomkefddaa
open Go.RowKit Go.Maps
set_option linter.unusedVariables false

/-- A pointer to a book that is none. -/
def NoBook (w : World) (v : Value) : Prop := v = .pointer none ∨ ∃ g, v = .pointer (some ⟨g, 0, none⟩) ∧ g < w.heap.size ∧ w.cell? ⟨g, 0, none⟩ = some (.map none)
theorem NoBook.below {w w' : World} {v : Value} (h : NoBook w v) (hb : Below w.heap.size w w') : NoBook w' v := by
  rcases h with rfl | ⟨g, rfl, hlt, h⟩
  · exact .inl rfl
  · exact .inr ⟨g, rfl, Nat.lt_of_lt_of_le hlt hb.size, (hb.cell hlt).trans h⟩
theorem NoBook.made {w : World} {g : Nat} {vs : Array Value} {t : TypeId} {fr : Nat × Nat} (hg : g = w.heap.size) (h : vs[0]? = some (.map none)) : NoBook (w.alloc (.cells vs t fr)) (.pointer (some ⟨g, 0, none⟩)) := by
  subst hg
  exact .inr ⟨_, rfl, by simp, by rw [cell_of_row _ _ 0 vs t fr (heap_alloc_new w _)]; exact h⟩
theorem eqlNoMap (w : World) : (binOp .eql 43 (.map none) (.map none)).run Try.prog w = .ok (.bool true) w := by kernel_rfl

set_option maxRecDepth 100000 in
theorem bnone_yes (v : Value) (w : World) (h : NoBook w v) : Calls Try.prog 39 #[v] w fun e w' => e = .returned (.bool true) ∧ w' = w := by
  have heq := eqlNoMap
  rcases h with rfl | ⟨g, rfl, _hlt, h⟩
  · go_enter Try.func39, Try.ntmps39
    go_wp2
    go_ret
    exact ⟨rfl, rfl⟩
  · go_enter Try.func39, Try.ntmps39
    go_wp2
    go_ret
    exact ⟨rfl, rfl⟩
theorem blen_none (v : Value) (w : World) (h : NoBook w v) : Calls Try.prog 20 #[v] w fun e w' => e = .returned (.int .i64 0) ∧ w' = w := by
  have Hno := Lib.hid (bnone_yes v w h)
  clear h
  go_enter Try.func20, Try.ntmps20
  go_wp2_with (go_at_call 39; refine Hno.out.mono ?_; rintro e w' ⟨rfl, rfl⟩)
  go_ret
  exact ⟨rfl, rfl⟩
theorem basked_none (v : Value) (w : World) (h : NoBook w v) : Calls Try.prog 22 #[v] w fun e w' => e = .returned (.int .i64 0) ∧ w' = w := by
  have Hno := Lib.hid (bnone_yes v w h)
  clear h
  go_enter Try.func22, Try.ntmps22
  go_wp2_with (go_at_call 39; refine Hno.out.mono ?_; rintro e w' ⟨rfl, rfl⟩)
  go_ret
  exact ⟨rfl, rfl⟩
theorem bclash_none (v : Value) (w : World) (h : NoBook w v) : Calls Try.prog 24 #[v] w fun e w' => e = .returned (.bool false) ∧ w' = w := by
  have Hno := Lib.hid (bnone_yes v w h)
  have hnot : ∀ (x : Bool) (w : World), (Op.unary .not (.bool x)).run Try.prog w = .ok (.bool (!x)) w := fun _ _ => rfl
  clear h
  go_enter Try.func24, Try.ntmps24
  go_wp2_with (go_at_call 39; refine Hno.out.mono ?_; rintro e w' ⟨rfl, rfl⟩)
  go_ret
  exact ⟨rfl, rfl⟩

set_option maxRecDepth 100000 in
set_option maxHeartbeats 800000 in
theorem bof_none (v : Value) (A : Option Addr) (n c : Nat) (w : World) (h : NoBook w v) :
    Calls Try.prog 16 #[v, .slice A n c] w fun e w' => e = .returned (.tuple #[.agg (cbs (List.replicate 32 0)).toArray, .int .i64 1]) ∧ Below w.heap.size w w' := by
  have b0 : Below w.heap.size w (w.alloc (.cells (cbs (List.replicate 32 0)).toArray 28)) := (Below.refl _ _).alloc (Nat.le_refl _) _
  have Hno := Lib.hid (bnone_yes v _ (h.below b0))
  have hZ : Blk (w.alloc (.cells (cbs (List.replicate 32 0)).toArray 28)) w.heap.size 28 (cbs (List.replicate 32 0)) := Blk.new rfl rfl
  have hth : (w.alloc (.cells (cbs (List.replicate 32 0)).toArray 28)).there w.heap.size 0 (cbs (List.replicate 32 0)).toArray.size := hZ.there
  have hR := hZ.setAll (vs := cbs (List.replicate 32 0)) rfl
  have hb1 : Below w.heap.size w ((w.alloc (.cells (cbs (List.replicate 32 0)).toArray 28)).setCells w.heap.size 0 (cbs (List.replicate 32 0))) := Below.setCells (Nat.le_refl _) _ b0
  have Hb := Lib.hid (And.intro hth (And.intro hR hb1))
  clear h b0 hZ hth hR hb1
  go_enter Try.func16, Try.ntmps16
  go_wp2_with (first | (go_at_call 39; refine Hno.out.mono ?_; rintro e w' ⟨rfl, rfl⟩) | (refine wpList_store_mid rfl 28 _ _ rfl w.heap.size 0 (cbs (List.replicate 32 0)).toArray rfl rfl Hb.out.1 info32b (cbs_one' _) ?_))
  refine bodyPost_ret (results_row_tmp rfl _ _ w.heap.size 28 (cbs (List.replicate 32 0)).toArray (0, 0) _ rfl Hb.out.2.1 Try.underlying28 rfl info32b) rfl ?_
  exact ⟨rfl, Hb.out.2.2⟩

theorem bks_of' {w wr : World} {g : Nat} {s : List (List UInt8) × Bool × Nat} {ds : List (Nat × List Value)} (h : BkS w wr g s ds) (hL : s.1.length < 1000000) (hk : s.2.2 < 1000000) (A : Option Addr) (n cp : Nat) (x : List UInt8) (hB : Bs wr A x) (hn : x.length = n) (hc : n ≤ cp) (hcm : cp ≤ maxLen) :
    Calls Try.prog 16 #[.pointer (some ⟨g, 0, none⟩), .slice A n cp] wr fun e w' => e = .returned (.tuple #[.agg (cbs (ofD x)).toArray, .int .i64 (ofE x)]) ∧ BkS w w' g (stepL s x) ds := by
  obtain ⟨S, h1, h2, h3, h4⟩ := h
  refine (bof_any S g s.1 s.2.1 s.2.2 A n cp x wr h2 hL hk hB hn hc hcm).mono ?_
  rintro e w' ⟨rfl, k1, k2⟩
  refine ⟨rfl, _, fun i hi => ?_, k1, h3.trans (k2.above h1 h3.size), fun d hd => ⟨k2.blk (h4 d hd).1 (h4 d hd).2, fun e => ?_⟩⟩
  · rcases hi with hi | hi
    · exact h1 i hi
    · exact Nat.le_trans h3.size hi.1
  · rcases e with e | e
    · exact (h4 d hd).2 e
    · have := (h4 d hd).1.lt; omega

theorem eq_zz (DZ : List Value) (h : cbs (List.replicate 32 0) = DZ) (w : World) :
    (Op.equalIn 10000 28 (.agg DZ.toArray) (.agg #[Value.int .u8 0, Value.int .u8 0, Value.int .u8 0, Value.int .u8 0, Value.int .u8 0, Value.int .u8 0, Value.int .u8 0, Value.int .u8 0, Value.int .u8 0, Value.int .u8 0, Value.int .u8 0, Value.int .u8 0, Value.int .u8 0, Value.int .u8 0, Value.int .u8 0, Value.int .u8 0, Value.int .u8 0, Value.int .u8 0, Value.int .u8 0, Value.int .u8 0, Value.int .u8 0, Value.int .u8 0, Value.int .u8 0, Value.int .u8 0, Value.int .u8 0, Value.int .u8 0, Value.int .u8 0, Value.int .u8 0, Value.int .u8 0, Value.int .u8 0, Value.int .u8 0, Value.int .u8 0])).run Try.prog w = .ok true w := by
  subst h
  exact eq_digests w (List.replicate 32 0) (List.replicate 32 0) rfl rfl

/-- make([]byte, n): n noughts in a block of their own. -/
theorem made_bytes (n : Nat) (hn : n < 1000000) : ∃ (x : List UInt8) (Z : Array Value), x.length = n ∧ (∀ w : World, (Instr.makeSlice 32 (.int .i64 (n : Int)) (.int .i64 (n : Int))).run Try.prog w = .ok (.slice (some ⟨w.heap.size, 0, none⟩) n n) (w.alloc (.cells Z 5))) ∧
    ∀ w : World, Bs (w.alloc (.cells Z 5)) (some ⟨w.heap.size, 0, none⟩) x := by
  refine ⟨List.replicate n 0, madeCells #[.int .u8 0] n, by simp, fun w => run_make_row' 32 5 (.int .u8 0) 1 Try.underlying32 u8_info rfl .i64 .i64 n (by omega) (by omega) w, fun w => ⟨by rw [cbs_length]; simp, fun hn => ⟨w.heap.size, 0, rfl, by simp, fun j u hu => ?_⟩⟩⟩
  rw [Nat.zero_add]
  have hj : j < n := by
    rcases Nat.lt_or_ge j n with h | h
    · exact h
    · rw [List.getElem?_eq_none (by rw [cbs_length]; simpa using h)] at hu; cases hu
  rw [cbs_get, List.getElem?_replicate, if_pos hj] at hu
  injection hu with hu
  subst hu
  exact (World.rowIs_made w (.int .u8 0) n 5).cell hj
end Go.Proofs.Ytamfjnomkefddaa
