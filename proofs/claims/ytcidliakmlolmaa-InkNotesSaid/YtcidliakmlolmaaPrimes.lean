/-
  The first 64 primes and their cube roots over this seat's translation.
-/
import Derived.Test.YtcidliakmlolmaaRootsW
import Derived.Test.YtcidliakmlolmaaFirst
namespace Go.Proofs.Ytcidliakmlolmaa
open Go.RowKit
set_option linter.unusedVariables false

def cu (l : List Nat) : List Value := List.map (fun n : Nat => Value.int .u64 (n : Int)) l
def co (l : List Bool) : List Value := l.map Value.bool
def cn (l : List Nat) : List Value := List.map (fun n : Nat => Value.int .u32 (n : Int)) l
theorem cu_len (l : List Nat) : (cu l).length = l.length := by simp [cu]
theorem co_len (l : List Bool) : (co l).length = l.length := by simp [co]
theorem cn_len (l : List Nat) : (cn l).length = l.length := by simp [cn]
theorem cu_get {l : List Nat} {i : Nat} (h : i < l.length) : (cu l)[i]? = some (.int .u64 ((l.getD i 0 : Nat) : Int)) := by
  simp [cu, List.getD, List.getElem?_eq_getElem h]
theorem cn_get {l : List Nat} {i : Nat} (h : i < l.length) : (cn l)[i]? = some (.int .u32 ((l.getD i 0 : Nat) : Int)) := by
  simp [cn, List.getD, List.getElem?_eq_getElem h]
theorem co_get {l : List Bool} {i : Nat} (h : i < l.length) : (co l)[i]? = some (.bool (l.getD i false)) := by
  simp [co, List.getD, List.getElem?_eq_getElem h]
theorem cu_set (l : List Nat) (i n : Nat) : (cu l).set i (.int .u64 (n : Int)) = cu (l.set i n) := by unfold cu; rw [List.map_set]
theorem co_set (l : List Bool) (i : Nat) (b : Bool) : (co l).set i (.bool b) = co (l.set i b) := by unfold co; rw [List.map_set]
theorem cn_set (l : List Nat) (i n : Nat) : (cn l).set i (.int .u32 (n : Int)) = cn (l.set i n) := by unfold cn; rw [List.map_set]
theorem cu_one (l : List Nat) : (cu l).toArray.all (·.oneCell') = true := by
  rw [Array.all_eq_true_iff_forall_mem]
  intro u hu
  simp [cu] at hu
  obtain ⟨x, _, rfl⟩ := hu
  rfl
theorem info64l : (Try.prog.info? 89).map (·.size) = some 64 := by kernel_rfl

theorem zeros64 : (cu (List.replicate 64 0)).toArray = (List.replicate 64 (Value.int .u64 0)).toArray := by unfold cu; rw [List.map_replicate]; rfl
theorem zeros312 : (co (List.replicate 312 false)).toArray = (List.replicate 312 (Value.bool false)).toArray := by unfold co; rw [List.map_replicate]
set_option maxRecDepth 100000 in
set_option maxHeartbeats 1600000 in
theorem primes_any (w : World) : Calls Try.prog 47 #[] w fun e w' => e = .returned (.agg (cu PP).toArray) ∧ Below w.heap.size w w' := by
  go_enter Try.func47, Try.ntmps47
  go_wp2
  go_loopw [3, 4] (fun f n wr => ∃ i : Nat, i ≤ 310 ∧ n = .int .i64 ((i + 2 : Nat) : Int) ∧ f = .int .i64 ((sv i).found : Int) ∧ Blk wr w.heap.size 89 (cu (List.replicate 64 0)) ∧
      Blk wr (w.heap.size + 1) 89 (cu (sv i).out) ∧ Blk wr (w.heap.size + 1 + 1) 96 (co (sv i).crossed) ∧ Below w.heap.size w wr) (fun _ n _ => 312 - (intOf n).toNat)
  case atStart =>
    refine ⟨0, by omega, rfl, rfl, ?_, ?_, ?_, (((Below.refl _ _).alloc (Nat.le_refl _) _).alloc (by simp) _).alloc (by simp; omega) _⟩
    · exact ((Blk.new zeros64 rfl).old _).old _
    · exact (Blk.new zeros64 (by simp)).old _
    · exact Blk.new zeros312 (by simp)
  case round =>
    obtain ⟨i, hi, rfl, rfl, hR, hO, hC, hnx⟩ := hrel
    by_cases hlt : i < 310
    · have hlen := sv_lens i
      have hsv : sv (i + 1) = (sv i).step (i + 2) := rfl
      have hfd := sv_found hlt
      have c0 := hC.cell (co_get (l := (sv i).crossed) (i := i + 2) (by omega))
      have hm1 : ((i + 2 : Nat) : Int) + 1 = ((i + 1 + 2 : Nat) : Int) := by omega
      obtain ⟨n, hn⟩ : ∃ n, n = i + 2 := ⟨_, rfl⟩
      rw [← hn] at hsv hfd c0 hm1 ⊢
      generalize sv i = s at *
      have g0 : (n : Int) ≤ 311 := by omega
      have g1 : (2 : Int) ≤ (n : Int) := by omega
      by_cases hc : s.crossed.getD n false = true
      · rw [hc] at c0
        rw [Sv.step, if_pos hc] at hsv
        have Hsv := Lib.hid (And.intro hsv (And.intro hn hm1))
        clear hsv hlen hn hfd hc hlt hi hm1
        go_wp2
        go_roundw
        case rel =>
          obtain ⟨hsv, hn, hm1⟩ := Hsv.out
          exact ⟨i + 1, by omega, by rw [hm1], by rw [hsv], hR, by rw [hsv]; exact hO, by rw [hsv]; exact hC, hnx⟩
        case measure => simp [intOf]; omega
      · have hc' : s.crossed.getD n false = false := by simpa using hc
        have hf := hfd hc'
        rw [hc'] at c0
        rw [Sv.step, if_neg hc] at hsv
        have Hsv := Lib.hid (And.intro hsv (And.intro hn (And.intro hm1 (And.intro hf hlen))))
        have d0 := hO.cell (cu_get (l := s.out) (i := s.found) (by omega))
        have f0 := hO.free s.found
        have e1 : IntKind.i64.wrap ((n : Int) * (n : Int)) = ((n * n : Nat) : Int) := by
          rw [← Int.natCast_mul]
          exact IntWalk.i64_in _ (by have : n * n ≤ 311 * 311 := Nat.mul_le_mul (by omega) (by omega); omega)
        have g2 : (s.found : Int) < 64 := by omega
        have g3 : (0 : Int) ≤ (s.found : Int) := by omega
        clear hsv hlen hn hfd hc hc' hlt hi hm1 hf
        generalize hnn : n * n = m0 at *
        have Hnn := Lib.hid hnn
        clear hnn
        go_wp2
        have hO' := hO.set_ s.found (.int .u64 (n : Int))
        rw [cu_set] at hO'
        have hR' : Blk (wr.setCell ⟨w.heap.size + 1, s.found, none⟩ (.int .u64 (n : Int))) w.heap.size 89 (cu (List.replicate 64 0)) := hR.far (by dsimp only; omega) _
        have hC' : Blk (wr.setCell ⟨w.heap.size + 1, s.found, none⟩ (.int .u64 (n : Int))) (w.heap.size + 1 + 1) 96 (co s.crossed) := hC.far (by dsimp only; omega) _
        have hnx' : Below w.heap.size w (wr.setCell ⟨w.heap.size + 1, s.found, none⟩ (.int .u64 (n : Int))) := hnx.setCell (by dsimp only; omega) _
        clear c0 d0 f0 hO hR hC hnx
        generalize wr.setCell ⟨w.heap.size + 1, s.found, none⟩ (.int .u64 (n : Int)) = wo at *
        go_loopw [5] (fun m wr => ∃ (f k : Nat) (C : List Bool), m = .int .i64 (k : Int) ∧ 312 ≤ k + f ∧ 0 < k ∧ C.length = 312 ∧ crossF 312 n m0 s.crossed = crossF f n k C ∧ Blk wr w.heap.size 89 (cu (List.replicate 64 0)) ∧
          Blk wr (w.heap.size + 1) 89 (cu (s.out.set s.found n)) ∧ Blk wr (w.heap.size + 1 + 1) 96 (co C) ∧ Below w.heap.size w wr) (fun m _ => 1000 - (intOf m).toNat)
        case atStart =>
          obtain ⟨hsv, hn, hm1, hf, hlen⟩ := Hsv.out
          have hm0 := Hnn.out
          have h2n : 2 * 2 ≤ n * n := Nat.mul_le_mul (by omega) (by omega)
          exact ⟨312, m0, s.crossed, rfl, by omega, by omega, hlen.2, rfl, hR', hO', hC', hnx'⟩
        case round =>
          clear hR' hO' hC' hnx'
          obtain ⟨f, k, C, rfl, hk, hk0, hCl, hX, hR, hO, hC, hnx⟩ := hrel
          by_cases hkl : k ≤ 311
          · obtain ⟨f', rfl⟩ : ∃ f', f = f' + 1 := ⟨f - 1, by omega⟩
            rw [crossF_step hkl] at hX
            have c0 := hC.cell (co_get (l := C) (i := k) (by omega))
            have f0 := hC.free k
            have g2 : (k : Int) ≤ 311 := by omega
            have g3 : (0 : Int) ≤ (k : Int) := by omega
            have HX := Lib.hid (And.intro hX (And.intro hk (And.intro hCl hk0)))
            have hadd : (k : Int) + (n : Int) = ((k + n : Nat) : Int) := by omega
            have Hadd := Lib.hid hadd
            clear hX hk hkl hCl hadd hk0
            go_wp2
            go_roundw
            case rel =>
              obtain ⟨hX, hk, hCl, hk0⟩ := HX.out
              have hs := hC.set_ k (.bool true)
              rw [co_set] at hs
              exact ⟨f', k + n, C.set k true, by first | rw [Hadd.out] | go_num, by omega, by omega, by rw [List.length_set]; exact hCl, hX, hR.far (by dsimp only; omega) _, hO.far (by dsimp only; omega) _, hs, hnx.setCell (by dsimp only; omega) _⟩
            case measure => simp [intOf]; omega
          · have hend : crossF f n k C = C := crossF_end (by omega)
            rw [hend] at hX
            clear hend
            have HX := Lib.hid hX
            have g2 : ¬ (k : Int) ≤ 311 := by omega
            clear hX hk hkl
            go_wp2
            go_roundw
            case rel =>
              obtain ⟨hsv, hn, hm1, hf, hlen⟩ := Hsv.out
              rw [HX.out] at hsv
              refine ⟨i + 1, by omega, by rw [hm1], by rw [hsv]; first | rfl | go_num, hR, by rw [hsv]; exact hO, by rw [hsv]; exact hC, hnx⟩
            case measure => simp [intOf]; omega
    · have e : i = 310 := by omega
      subst e
      rw [sv_end] at hO
      have hi : (Try.prog.info? 89).map (·.size) = some (cu PP).toArray.size := info64l
      have hth : wr.there w.heap.size 0 (cu PP).toArray.size := by
        have e := hR.there
        rwa [cu_len, List.length_replicate] at e
      have hR' := hR.setAll (vs := cu PP) (by rw [cu_len, cu_len, List.length_replicate]; rfl)
      have hnx' : Below w.heap.size w (wr.setCells w.heap.size 0 (cu PP)) := Below.setCells (Nat.le_refl _) _ hnx
      have Hi := Lib.hid hi
      have Hth := Lib.hid hth
      have Hone := Lib.hid (cu_one PP)
      have g2 : ¬ ((310 + 2 : Nat) : Int) ≤ 311 := by omega
      clear hi hth hC hR hnx hlt
      generalize hvs : cu PP = vs at *
      have Hvs := Lib.hid hvs
      clear hvs
      go_wp2_with (first
        | refine wpList_load_row rfl 89 _ rfl (w.heap.size + 1) rfl 89 vs.toArray (0, 0) _ hO Try.underlying89 rfl Hi.out ?_
        | refine wpList_store_mid rfl 89 _ _ rfl w.heap.size 0 vs.toArray rfl rfl Hth.out Hi.out Hone.out ?_)
      exact bodyPost_ret (results_cell_row rfl _ _ w.heap.size 89 vs.toArray (0, 0) _ rfl hR' Try.underlying89 rfl Hi.out) rfl ⟨by rw [Hvs.out], hnx'⟩
end Go.Proofs.Ytcidliakmlolmaa
