/-
  The statements' own helpers: hex, works; digests compared.
-/
import Derived.Test.YtflagkmkimkamaaApi
import Derived.Stop.BytesEq
import Derived.Lib.SlBytesConst
import Derived.Outline
namespace Go.Proofs.Ytflagkmkimkamaa
open Go.RowKit
set_option linter.unusedVariables false

theorem eq_digests (w : World) (l m : List UInt8) (hl : l.length = 32) (hm : m.length = 32) :
    (Op.equalIn 10000 31 (.agg (cbs l).toArray) (.agg (cbs m).toArray)).run Try.prog w = .ok (l == m) w :=
  run_equalIn_bytes w 9998 31 5 32 Try.underlying31 Try.underlying5 (fun w => by kernel_rfl) l m hl hm
theorem dlen (l : List UInt8) : (digest l).length = 32 := by rw [digest_last]; rfl
theorem eq_same (D : List Value) (l : List UInt8) (h : D = cbs (digest l)) (w : World) : (Op.equalIn 10000 31 (.agg D.toArray) (.agg D.toArray)).run Try.prog w = .ok true w := by
  subst h
  rw [eq_digests w _ _ (dlen l) (dlen l)]
  simp

def nib (c : UInt8) : UInt8 := if 65 ≤ c.toNat then c - 65 + 10 else c - 48
def hx (l : List UInt8) : Nat → List UInt8
  | 0 => List.replicate 32 0
  | k + 1 => (hx l k).set (k / 2) ((hx l k).getD (k / 2) 0 * 16 + nib (l.getD k 0))
theorem hx_len (l : List UInt8) (k : Nat) : (hx l k).length = 32 := by
  induction k with
  | zero => exact List.length_replicate
  | succ k ih => rw [hx, List.length_set]; exact ih

theorem cb_nib1 (o c : UInt8) (h : 65 ≤ c.toNat) : Value.int .u8 (((o.toNat : Int) * 16 + ((c.toNat : Int) - 65 + 10)) % 256) = cb (o * 16 + nib c) := by
  have h1 := o.toNat_lt
  have h2 := c.toNat_lt
  have e16 : (16 : UInt8).toNat = 16 := rfl
  have e65 : (65 : UInt8).toNat = 65 := rfl
  have e10 : (10 : UInt8).toNat = 10 := rfl
  unfold cb nib
  rw [if_pos h, UInt8.toNat_add, UInt8.toNat_mul, UInt8.toNat_add, UInt8.toNat_sub, e16, e65, e10]
  congr 1
  omega
theorem cb_nib2 (o c : UInt8) (h : ¬ 65 ≤ c.toNat) : Value.int .u8 (((o.toNat : Int) * 16 + ((c.toNat : Int) - 48)) % 256) = cb (o * 16 + nib c) := by
  have h1 := o.toNat_lt
  have h2 := c.toNat_lt
  have e16 : (16 : UInt8).toNat = 16 := rfl
  have e48 : (48 : UInt8).toNat = 48 := rfl
  unfold cb nib
  rw [if_neg h, UInt8.toNat_add, UInt8.toNat_mul, UInt8.toNat_sub, e16, e48]
  congr 1
  omega

set_option maxRecDepth 100000 in
set_option maxHeartbeats 1600000 in
theorem hex_any (s : ByteArray) (w : World) (hs : s.size = 64) :
    Calls Try.prog 32 #[.string s] w fun e w' => e = .returned (.agg (cbs (hx s.data.toList 64)).toArray) ∧ Below w.heap.size w w' := by
  have Hs := Lib.hid hs
  clear hs
  go_enter Try.func32, Try.ntmps32
  go_wp2
  go_loopw [4] (fun i wr => ∃ k : Nat, k ≤ 64 ∧ i = .int .i64 k ∧ Blk wr w.heap.size 31 (cbs (List.replicate 32 0)) ∧ Blk wr (w.heap.size + 1) 31 (cbs (hx s.data.toList k)) ∧ Below w.heap.size w wr) (fun i _ => 64 - (intOf i).toNat)
  case atStart => exact ⟨0, by omega, rfl, (Blk.new rfl rfl).old _, Blk.new rfl (by simp), ((Below.refl _ _).alloc (Nat.le_refl _) _).alloc (by simp) _⟩
  case round =>
    obtain ⟨k, hk, rfl, hR, hD, hnx⟩ := hrel
    have hsz := Hs.out
    by_cases hlt : k < 64
    · have i0 : (0 : Int) ≤ (k : Int) := by omega
      have i1 : (k : Int) < 64 := by omega
      have i2 : k < s.size := by omega
      have hgk : s.data.toList.getD k 0 = s[k] := by
        rw [List.getD_eq_getElem?_getD, List.getElem?_eq_getElem (by simpa using i2)]; rfl
      have hq : (k : Int) / 2 = ((k / 2 : Nat) : Int) := by omega
      have hq2 : ((k / 2 : Nat) : Int) < 32 := by omega
      have hl := hx_len s.data.toList k
      have d0 := hD.cell (i := k / 2) (v := .int .u8 (((hx s.data.toList k).getD (k / 2) 0).toNat : Int)) (cbs_getD _ _ (by omega))
      have f0 := hD.free (k / 2)
      have hset : hx s.data.toList (k + 1) = (hx s.data.toList k).set (k / 2) ((hx s.data.toList k).getD (k / 2) 0 * 16 + nib (s[k])) := by rw [← hgk]; rfl
      have hc8 := s[k].toNat_lt
      obtain ⟨q, hqq⟩ : ∃ q, q = k / 2 := ⟨_, rfl⟩
      rw [← hqq] at hq hq2 d0 f0 hset
      generalize (hx s.data.toList k).getD q 0 = old at *
      have ho8 := old.toNat_lt
      have Hset := Lib.hid (And.intro hset (And.intro hk hqq))
      have j1 : (s[k].toNat : Int) ≤ 255 := by omega
      clear hset hk hqq hl hgk hsz hlt
      have hnx2 : ∀ v, Below w.heap.size w (wr.setCell ⟨w.heap.size + 1, q, none⟩ v) := fun v => hnx.setCell (by dsimp only; omega) _
      have hs2 := hD.set_ q (cb (old * 16 + nib s[k]))
      rw [cbs_set, ← Hset.out.1] at hs2
      have Hs2 := Lib.hid (And.intro hs2 hnx2)
      clear hs2 hnx2
      by_cases h65 : 65 ≤ s[k].toNat
      · have ec := cb_nib1 old s[k] h65
        have Hec := Lib.hid ec
        have j2 : (65 : Int) ≤ (s[k].toNat : Int) := by omega
        clear ec h65
        go_wp2
        go_roundw
        case rel =>
          obtain ⟨_, hk, _⟩ := Hset.out
          rw [Hec.out]
          exact ⟨k + 1, by omega, by go_num, hR.far (by dsimp only; omega) _, Hs2.out.1, Hs2.out.2 _⟩
        case measure => simp [intOf]; omega
      · have ec := cb_nib2 old s[k] h65
        have Hec := Lib.hid ec
        have j2 : ¬ (65 : Int) ≤ (s[k].toNat : Int) := by omega
        clear ec h65
        go_wp2
        go_roundw
        case rel =>
          obtain ⟨_, hk, _⟩ := Hset.out
          rw [Hec.out]
          exact ⟨k + 1, by omega, by go_num, hR.far (by dsimp only; omega) _, Hs2.out.1, Hs2.out.2 _⟩
        case measure => simp [intOf]; omega
    · have e : k = 64 := by omega
      subst e
      have i3 : ¬ ((64 : Nat) : Int) < (s.size : Int) := by omega
      have i4 : ¬ (64 : Nat) < s.size := by omega
      obtain ⟨D, hD32, hDv, hD1⟩ : ∃ D : List Value, D.length = 32 ∧ cbs (hx s.data.toList 64) = D ∧ D.toArray.all (·.oneCell') = true := ⟨cbs (hx s.data.toList 64), by rw [cbs_length, hx_len], rfl, cbs_one' _⟩
      rw [hDv] at hD
      have hsz2 : D.toArray.size = 32 := by rw [List.size_toArray]; exact hD32
      have hth : wr.there w.heap.size 0 D.toArray.size := by
        have e := hR.there
        rw [cbs_length, List.length_replicate] at e
        rw [hsz2]; exact e
      have hi : (Try.prog.info? 31).map (·.size) = some D.toArray.size := by rw [hsz2]; exact info32b
      have hR' := hR.setAll (vs := D) (by rw [hD32, cbs_length, List.length_replicate])
      have hnx' : Below w.heap.size w (wr.setCells w.heap.size 0 D) := Below.setCells (Nat.le_refl _) _ hnx
      have Hi := Lib.hid hi
      have Hth := Lib.hid hth
      have Hq := Lib.hid (And.intro hR' (And.intro hnx' (And.intro hDv hD1)))
      clear hk hlt hR hnx hth hi hR' hnx' hDv hD1 hsz2 hD32 hsz
      go_wp2_with (first
        | refine wpList_load_row rfl 31 _ rfl (w.heap.size + 1) rfl 31 D.toArray (0, 0) _ hD Try.underlying31 rfl Hi.out ?_
        | refine wpList_store_mid rfl 31 _ _ rfl w.heap.size 0 D.toArray rfl rfl Hth.out Hi.out Hq.out.2.2.2 ?_)
      all_goals exact bodyPost_ret (results_cell_row rfl _ _ w.heap.size 31 D.toArray (0, 0) _ rfl Hq.out.1 Try.underlying31 rfl Hi.out) rfl ⟨by rw [Hq.out.2.2.1], Hq.out.2.1⟩

def abcS : ByteArray := { data := #[66, 65, 55, 56, 49, 54, 66, 70, 56, 70, 48, 49, 67, 70, 69, 65, 52, 49, 52, 49, 52, 48, 68, 69, 53, 68, 65, 69, 50, 50, 50, 51, 66, 48, 48, 51, 54, 49, 65, 51, 57, 54, 49, 55, 55, 65, 57, 67, 66, 52, 49, 48, 70, 70, 54, 49, 70, 50, 48, 48, 49, 53, 65, 68] }
theorem abc_hex : hx abcS.data.toList 64 = digest [97, 98, 99] := by
  rw [dig_abc]; decide +kernel
theorem Bs.made (w : World) (t : TypeId) (vs : Array Value) (fr : Nat × Nat) (l : List UInt8) (h : vs.toList = cbs l) : Bs (w.alloc (.cells vs t fr)) (some ⟨w.heap.size, 0, none⟩) l := by
  refine ⟨by rw [cbs_length]; simp, fun _ => ⟨w.heap.size, 0, rfl, by simp, fun j u hu => ?_⟩⟩
  rw [Nat.zero_add, cell_of_row _ _ j vs t fr (heap_alloc_new w _)]
  rw [← h] at hu
  simpa using hu

set_option maxRecDepth 100000 in
set_option maxHeartbeats 800000 in
theorem works_any (w : World) : Calls Try.prog 12 #[] w fun e w' => e = .returned (.bool true) ∧ Below w.heap.size w w' := by
  obtain ⟨D, hD⟩ : ∃ D, D = cbs (digest [97, 98, 99]) := ⟨_, rfl⟩
  have hof := fun (A : Option Addr) (c : Nat) w (h : Bs w A [97, 98, 99]) (h2 : 3 ≤ c) (h3 : c ≤ maxLen) => of_any A 3 c [97, 98, 99] w h rfl h2 h3 (by decide)
  have hhx := fun w => hex_any abcS w rfl
  rw [abc_hex, ← hD] at hhx
  simp only [← hD] at hof
  have heq := eq_same D _ hD
  have Hof := Lib.hid hof
  have Hhx := Lib.hid hhx
  clear hof hhx hD
  have kc := fun (w : World) (C : Array Value) (n c : Nat) => Lib.run_convert_bytes_const (P := Try.prog) w 25 5 C n c Try.underlying25 Try.underlying5
  go_enter Try.func12, Try.ntmps12
  go_wp2_with fail
  refine (Hof.out _ 3 _ ?_ (by decide) (by decide)).mono ?_
  · exact Bs.made _ _ #[.int .u8 97, .int .u8 98, .int .u8 99] _ [97, 98, 99] rfl
  rintro e w1 ⟨rfl, b1⟩
  have Hb1 := Lib.hid b1
  clear b1
  go_wp2_with fail
  refine (Hhx.out _).mono ?_
  rintro e w2 ⟨rfl, b2⟩
  have hz := Hb1.out.size
  simp only [World.size_alloc] at hz
  have Hb := Lib.hid ((((Below.refl w.heap.size w).alloc (Nat.le_refl _) _).trans (Hb1.out.mono (by simp))).trans (b2.mono (by omega)))
  clear b2
  go_wp2
  go_ret
  exact ⟨rfl, Hb.out⟩

end Go.Proofs.Ytflagkmkimkamaa
