/-
  The cube roots over this seat's translation.
-/
import Derived.Test.YtcidliakmlolmaaPrimes
namespace Go.Proofs.Ytcidliakmlolmaa
open Go.RowKit
set_option linter.unusedVariables false

theorem zeros64w : (cn (List.replicate 64 0)).toArray = (List.replicate 64 (Value.int .u32 0)).toArray := by unfold cn; rw [List.map_replicate]; rfl
theorem cn_cws (l : List UInt32) : cn (l.map UInt32.toNat) = cws l := by unfold cn cws; rw [List.map_map]; rfl
theorem rt_lens (i : Nat) : (rt i).out.length = 64 := by
  induction i with
  | zero => exact List.length_replicate
  | succ i ih => rw [rt]; simp only [List.length_set]; exact ih
theorem PP_small : ∀ x ∈ PP, x ≤ 311 := by decide
theorem PP_at (i : Nat) (h : i < 64) : PP.getD i 0 ≤ 311 := by
  have hl : i < PP.length := h
  rw [List.getD_eq_getElem?_getD, List.getElem?_eq_getElem hl]
  exact PP_small _ (List.getElem_mem hl)
theorem newt_le (f p : Nat) : ∀ x, newt f p x ≤ x := by
  induction f with
  | zero => intro x; exact Nat.le_refl _
  | succ f ih =>
    intro x
    rw [newt]
    split
    · exact Nat.le_trans (ih _) (Nat.le_trans (by rw [nxt_stp]; exact Nat.min_le_right _ _) (Nat.sub_le _ _))
    · exact Nat.le_refl _
theorem rt_small (i : Nat) : (rt i).root ≤ 30064771072 := by
  induction i with
  | zero => exact Nat.le_refl _
  | succ i ih => rw [rt]; exact Nat.le_trans (newt_le _ _ _) ih

set_option maxRecDepth 100000 in
set_option maxHeartbeats 1600000 in
theorem cubes_any (w : World) : Calls Try.prog 43 #[] w fun e w' => e = .returned (.agg (cws KK).toArray) ∧ Below w.heap.size w w' := by
  have hi64 : (Try.prog.info? 89).map (·.size) = some (cu PP).toArray.size := info64l
  have Hi64 := Lib.hid hi64
  have Hone := Lib.hid (cu_one PP)
  clear hi64
  obtain ⟨vs, hvs⟩ : ∃ vs, vs = cu PP := ⟨_, rfl⟩
  have hpr : ∀ w, Calls Try.prog 47 #[] w fun e w' => e = .returned (.agg vs.toArray) ∧ Below w.heap.size w w' := by rw [hvs]; exact primes_any
  have Hpr := Lib.hid hpr
  have hl64 : vs.length = 64 := by rw [hvs]; rfl
  have hz64 : (cu PP) = vs := hvs.symm
  rw [hz64] at Hi64 Hone
  have Hl := Lib.hid (And.intro hl64 hvs)
  clear hpr hl64 hvs hz64
  go_enter Try.func43, Try.ntmps43
  go_wp2_with fail
  refine (Hpr.out _).mono ?_
  rintro e w1 ⟨rfl, b1⟩
  have g1 := b1.size
  simp only [World.size_alloc] at g1
  have hR1 : Blk w1 w.heap.size 75 (cn (List.replicate 64 0)) := Blk.below ((Blk.new zeros64w rfl).old _) b1 (by simp; omega)
  have hO1 : Blk w1 (w.heap.size + 1) 75 (cn (List.replicate 64 0)) := Blk.below (Blk.new zeros64w (by simp)) b1 (by simp)
  have hnx1 : Below w.heap.size w w1 := (((Below.refl _ _).alloc (Nat.le_refl _) _).alloc (by simp) _).trans (b1.mono (by simp; omega))
  have hZ : Blk (w1.alloc (.cells (List.replicate 64 (Value.int .u64 0)).toArray 89)) w1.heap.size 89 (cu (List.replicate 64 0)) := Blk.new zeros64 rfl
  have hth : (w1.alloc (.cells (List.replicate 64 (Value.int .u64 0)).toArray 89)).there w1.heap.size 0 vs.toArray.size := by
    have e := hZ.there
    rw [cu_len, List.length_replicate] at e
    have hsz : vs.toArray.size = 64 := by rw [List.size_toArray]; exact Hl.out.1
    rw [hsz]
    exact e
  have Hth := Lib.hid hth
  have hA := hZ.setAll (vs := vs) (by rw [cu_len, List.length_replicate]; exact Hl.out.1)
  clear hth b1 hZ
  go_wp2_with (refine wpList_store_mid rfl 89 _ _ rfl w1.heap.size 0 vs.toArray rfl rfl Hth.out Hi64.out Hone.out ?_)
  go_loopw [2, 4] (fun r i wr => ∃ j : Nat, j ≤ 64 ∧ i = .int .i64 (63 - (j : Int)) ∧ r = .int .u64 ((rt j).root : Int) ∧ Blk wr w.heap.size 75 (cn (List.replicate 64 0)) ∧
      Blk wr (w.heap.size + 1) 75 (cn (rt j).out) ∧ Blk wr w1.heap.size 89 vs ∧ Below w.heap.size w wr) (fun _ i _ => (intOf i + 1).toNat)
  case atStart =>
    exact ⟨0, by omega, rfl, rfl, Blk.farAll (by omega) vs (hR1.old _), Blk.farAll (by omega) vs (hO1.old _), hA, Below.setCells (by omega) vs (hnx1.alloc (by omega) _)⟩
  case round =>
    clear hR1 hO1 hnx1 hA
    obtain ⟨j, hj, rfl, rfl, hR, hO, hA, hnx⟩ := hrel
    by_cases hlt : j < 64
    · obtain ⟨k, hk⟩ : ∃ k, j + k = 63 := ⟨63 - j, by omega⟩
      have hik : (63 : Int) - (j : Int) = (k : Int) := by omega
      rw [hik]
      have hrt : rt (j + 1) = ⟨newt 16 (PP.getD (63 - j) 0) (rt j).root, (rt j).out.set (63 - j) (newt 16 (PP.getD (63 - j) 0) (rt j).root % 4294967296)⟩ := rfl
      have hok := rt_ok hlt
      rw [show 63 - j = k from by omega] at hrt hok
      have hlen := rt_lens j
      have c0 := hA.cell (i := k) (v := .int .u64 ((PP.getD k 0 : Nat) : Int)) (by rw [Hl.out.2]; exact cu_get (l := PP) (i := k) (by show k < 64; omega))
      have d0 := hO.cell (cn_get (l := (rt j).out) (i := k) (by omega))
      have f0 := hO.free k
      have hsm := rt_small j
      have hro := fun w => root_any (PP.getD k 0) (rt j).root 16 w hok (PP_at k (by omega)) (by omega)
      have hrl : newt 16 (PP.getD k 0) (rt j).root ≤ 30064771072 := Nat.le_trans (newt_le _ _ _) hsm
      generalize rt j = s at *
      generalize PP.getD k 0 = p at *
      generalize newt 16 p s.root = r at *
      have e1 : IntKind.u32.wrap (r : Int) = ((r % 4294967296 : Nat) : Int) := by rw [IntKind.wrap_u32]; omega
      have g2 : (k : Int) < 64 := by omega
      have g3 : (0 : Int) ≤ (k : Int) := by omega
      have Hro := Lib.hid hro
      have Hrt := Lib.hid (And.intro hrt (And.intro hk (And.intro hik (And.intro hlen hrl))))
      clear hro hrt hk hik hlen hrl hok hsm hj hlt
      go_wp2_with fail
      refine (Hro.out _).mono ?_
      rintro e w2 ⟨rfl, rfl⟩
      go_wp2
      go_roundw
      case rel =>
        obtain ⟨hrt, hk, hik, hlen, hrl⟩ := Hrt.out
        have hs := hO.set_ k (.int .u32 ((r % 4294967296 : Nat) : Int))
        rw [cn_set] at hs
        refine ⟨j + 1, by omega, ?_, by rw [hrt], hR.far (by dsimp only; omega) _, by rw [hrt]; exact hs, hA.far (by dsimp only; omega) _, hnx.setCell (by dsimp only; omega) _⟩
        congr 1
        omega
      case measure => simp [intOf]
    · have e : j = 64 := by omega
      subst e
      rw [rt_end, cn_cws] at hO
      have hi : (Try.prog.info? 75).map (·.size) = some (cws KK).toArray.size := by rw [info64w, KK_size]
      have hth : wr.there w.heap.size 0 (cws KK).toArray.size := by
        have e := hR.there
        rw [cn_len, List.length_replicate] at e
        rw [KK_size]; exact e
      have hR' := hR.setAll (vs := cws KK) (by rw [cn_len, cws_length, List.length_replicate]; rfl)
      have hnx' : Below w.heap.size w (wr.setCells w.heap.size 0 (cws KK)) := Below.setCells (Nat.le_refl _) _ hnx
      have Hi := Lib.hid hi
      have Hth := Lib.hid hth
      have Hk := Lib.hid (cws_one KK)
      clear hi hth hA hR hnx hlt hj
      generalize hvs : cws KK = ks at *
      have Hvs := Lib.hid hvs
      clear hvs
      go_wp2_with (first
        | refine wpList_load_row rfl 75 _ rfl (w.heap.size + 1) rfl 75 ks.toArray (0, 0) _ hO Try.underlying75 rfl Hi.out ?_
        | refine wpList_store_mid rfl 75 _ _ rfl w.heap.size 0 ks.toArray rfl rfl Hth.out Hi.out Hk.out ?_)
      exact bodyPost_ret (results_cell_row rfl _ _ w.heap.size 75 ks.toArray (0, 0) _ rfl hR' Try.underlying75 rfl Hi.out) rfl ⟨by rw [Hvs.out], hnx'⟩
end Go.Proofs.Ytcidliakmlolmaa
