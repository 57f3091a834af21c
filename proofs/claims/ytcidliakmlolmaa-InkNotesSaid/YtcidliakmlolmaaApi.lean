/-
  New, Sum, Len, Of and Round of the program, over the code.
-/
import Derived.Test.YtcidliakmlolmaaWrite
import Derived.Laws.ResultCell
namespace Go.Proofs.Ytcidliakmlolmaa
open Go.RowKit
set_option linter.unusedVariables false

theorem start_any (w : World) : Calls Try.prog 34 #[] w fun e w' => e = .returned (.agg #[.int .u32 1779033703, .int .u32 3144134277, .int .u32 1013904242, .int .u32 2773480762, .int .u32 1359893119, .int .u32 2600822924, .int .u32 528734635, .int .u32 1541459225]) ∧ Below w.heap.size w w' := by
  go_enter Try.func34, Try.ntmps34
  go_wp2
  refine bodyPost_ret (results_cell_row rfl _ _ w.heap.size 61 _ (0, 0) _ rfl (heap_alloc_new w _) Try.underlying61 rfl info8w) rfl ⟨?_, (Below.refl _ _).alloc (Nat.le_refl _) _⟩
  rfl

theorem Hold.touched {w w' : World} {g k : Nat} {l : List UInt8} (h : Hold w g l) (hb : But k w w') (hne : g ≠ k) : Hold w' g l := by
  obtain ⟨rest, h1, h2⟩ := h
  exact ⟨rest, h1.touched hb hne, h2⟩
theorem Hold.below {w w' : World} {g : Nat} {l : List UInt8} (h : Hold w g l) (hb : Below w.heap.size w w') : Hold w' g l := by
  obtain ⟨rest, h1, h2⟩ := h
  exact ⟨rest, h1.below hb, h2⟩
theorem Hold.lt {w : World} {g : Nat} {l : List UInt8} (h : Hold w g l) : g < w.heap.size := by obtain ⟨_, h1, _⟩ := h; exact h1.lt
theorem Hold.made {w : World} {g : Nat} {l : List UInt8} (h : Hold w g l) : w.cell? ⟨g, 0, none⟩ = some (.bool true) := by obtain ⟨_, h1, _⟩ := h; exact h1.made

def zero141 : List Value := hcells S8.first (List.replicate 64 0) 0 0 0 (List.replicate 64 (.int .u32 0))

set_option maxRecDepth 100000 in
set_option maxHeartbeats 800000 in
theorem new_any (w : World) : Calls Try.prog 24 #[] w fun e w' => ∃ g, e = .returned (.pointer (some ⟨g, 0, none⟩)) ∧ w.heap.size ≤ g ∧ Hold w' g [] ∧ Below w.heap.size w w' := by
  go_enter Try.func24, Try.ntmps24
  go_wp2_with fail
  refine (start_any _).mono ?_
  rintro e w1 ⟨rfl, b1⟩
  go_wp2
  go_ret
  exact ⟨w1.heap.size, rfl, b1.size, ⟨List.replicate 64 0, ⟨0, List.replicate 64 (.int .u32 0), Blk.new (by kernel_rfl) rfl, rfl, rfl, .inl rfl⟩, rfl⟩, b1.alloc b1.size _⟩

theorem results_row_tmp {P : Program} {fn : Func} {p u : Tmp} {ty : TypeId} (h : fn.results = #[.cell p ty, .tmp u]) (tmps : Array Value) (w : World) (g : Nat) (t : TypeId) (cs : Array Value) (fr : Nat × Nat) (d : TypeDesc)
    (hp : tmps.getD p undef = .pointer (some ⟨g, 0, none⟩)) (hg : w.heap[g]? = some (.cells cs t fr))
    (hu : P.underlying ty = some d) (hd : (match d with | .struct _ | .array _ _ => true | _ => false) = true) (hi : (P.info? ty).map (·.size) = some cs.size) :
    (results fn tmps).run P w = .ok (.tuple #[.agg cs, tmps.getD u undef]) w := by
  have hp' : tmps[p]?.getD undef = .pointer (some ⟨g, 0, none⟩) := by simpa using hp
  rw [results_cell_tmp h]
  simp [hp', asAddr, run_loadVar_row w g t ty cs fr d hg hu hd hi, Result.andThen]

set_option maxRecDepth 100000 in
set_option maxHeartbeats 800000 in
theorem of_any (A : Option Addr) (n c : Nat) (l : List UInt8) (w : World) (hB : Bs w A l) (hn : l.length = n) (hc : n ≤ c) (hcm : c ≤ maxLen) (hl : n ≤ 281474976710656) :
    Calls Try.prog 18 #[.slice A n c] w fun e w' => e = .returned (.agg (cbs (digest l)).toArray) ∧ Below w.heap.size w w' := by
  obtain ⟨D, hD32, hDv, hD1⟩ : ∃ D : List Value, D.length = 32 ∧ cbs (digest l) = D ∧ D.toArray.all (·.oneCell') = true := ⟨cbs (digest l), by rw [cbs_length, digest_last]; rfl, rfl, cbs_one' _⟩
  rw [hDv]
  have Ho := Lib.hid (And.intro hD32 (And.intro hD1 hDv))
  have Hl := Lib.hid (And.intro hB (And.intro hn (And.intro hc (And.intro hcm hl))))
  clear hD32 hD1 hDv hB hn hc hcm hl
  go_enter Try.func18, Try.ntmps18
  go_wp2_with fail
  refine (new_any _).mono ?_
  rintro e w1 ⟨g, rfl, hg, hH, b1⟩
  have z1 := b1.size
  simp only [World.size_alloc] at hg z1
  obtain ⟨hB, hn, hc, hcm, hl⟩ := Hl.out
  have hB1 : Bs w1 A l := (hB.after ((Below.refl _ _).alloc (Nat.le_refl _) (.cells (cbs (List.replicate 32 0)).toArray 28))).after b1
  have hA : Away A g l := hB.away (by omega)
  have hZ : Blk w1 w.heap.size 28 (cbs (List.replicate 32 0)) := Blk.below (Blk.new rfl rfl) b1 (by simp)
  have hnx : Below w.heap.size w w1 := ((Below.refl _ _).alloc (Nat.le_refl _) _).trans (b1.mono (by simp))
  have hwr := write_any g [] l A n c w1 hn hc hcm (by simpa using hl) hH hB1 hA
  rw [List.nil_append] at hwr
  have Hwr := Lib.hid hwr
  clear hB hn hc hcm hl hB1 hA hwr hH b1
  go_wp2_with fail
  refine Hwr.out.mono ?_
  rintro e w2 ⟨rfl, hH2, hb2⟩
  have hZ2 := hb2.blk hZ (by omega)
  have hdg := digest_any g l w2 (by have := Hl.out; omega) hH2
  rw [Ho.out.2.2] at hdg
  have Hdg := Lib.hid hdg
  have hb2s := hb2.size
  clear hdg hH2 hZ
  go_wp2_with fail
  refine Hdg.out.mono ?_
  rintro e w3 ⟨rfl, hH3, hb3⟩
  have hZ3 := hb3.blk hZ2 (by omega)
  have hsz : D.toArray.size = 32 := by rw [List.size_toArray]; exact Ho.out.1
  have hth : w3.there w.heap.size 0 D.toArray.size := by
    have e := hZ3.there
    rw [cbs_length, List.length_replicate] at e
    rw [hsz]; exact e
  have hi : (Try.prog.info? 28).map (·.size) = some D.toArray.size := by rw [hsz]; exact info32b
  have hR := hZ3.setAll (vs := D) (by rw [Ho.out.1, cbs_length, List.length_replicate])
  have hnx' : Below w.heap.size w (w3.setCells w.heap.size 0 D) :=
    Below.setCells (Nat.le_refl _) _ ((hnx.trans (hb2.above (by omega) (by omega))).trans (hb3.above (by omega) (by omega)))
  have Hth := Lib.hid hth
  have Hi := Lib.hid hi
  have Hq := Lib.hid (And.intro hR hnx')
  clear hZ2 hZ3 hsz hth hi hR hnx' hH3 hb3 hb2 hnx
  go_wp2_with (refine wpList_store_mid rfl 28 _ _ rfl w.heap.size 0 D.toArray rfl rfl Hth.out Hi.out Ho.out.2.1 ?_)
  exact bodyPost_ret (results_cell_row rfl _ _ w.heap.size 28 D.toArray (0, 0) _ rfl Hq.out.1 Try.underlying28 rfl Hi.out) rfl ⟨rfl, Hq.out.2⟩
end Go.Proofs.Ytcidliakmlolmaa
