/-
  For all bytes q (55 at most are looked at): the digest is one round of one block, and ShaOneBlock returns true; no condition.
-/
import Derived.Test.YtdhpkaffijbedaaOpen
import Derived.Test.YtdhpkaffijbedaaOneB
import Derived.Test.YtdhpkaffijbedaaCutN
import Derived.Test.YtdhpkaffijbedaaHex
import Derived.Test.YtdhpkaffijbedaaSt
import Derived.Deep.RegionHeld3
import Derived.Deep.RegionWith
import Derived.Deep.DeepCutAuto
namespace Go.Proofs.Ytdhpkaffijbedaa.shaOneBlock
open Go.ChangeShapes Go.WideShapes Go.ChangeAt Go.RowKit
set_option linter.unusedVariables false

set_option maxRecDepth 100000 in
set_option maxHeartbeats 6400000 in
theorem walk (Aq : Option Addr) (nq cq : Nat) (q : List UInt8) (w : World) (hq : ArgB w Aq nq cq q) :
    Calls Try.prog 10 #[.slice Aq nq cq] w fun e w' => e = .returned (.bool true) ∧ Below w.heap.size w w' := by
  obtain ⟨m, x, hx, hm, hmc, hcm, hB, hmin, hcut⟩ := cutUp 55 55 rfl hq
  clear hq
  obtain ⟨D, hD32, hDv', hD1⟩ : ∃ D : List Value, D.length = 32 ∧ cbs (digest x) = D ∧ D.toArray.all (·.oneCell') = true := ⟨cbs (digest x), by rw [cbs_length, dlen], rfl, cbs_one' _⟩
  have hDv := Lib.hid hDv'
  have HD := Lib.hid (And.intro hD32 hD1)
  clear hD32 hD1 hDv'
  have Hnc := Lib.hid (show x.length = m ∧ m ≤ cq ∧ cq ≤ maxLen ∧ m ≤ 281474976710656 from ⟨hx, hmc, hcm, by omega⟩)
  have Hm := Lib.hid hm
  have m0 : (0 : Int) ≤ (m : Int) := by omega
  have m1 : (m : Int) ≤ 55 := by omega
  clear hx hmc hcm hm
  go_enter Try.func10, Try.ntmps10
  go_wp2_with fail
  refine (works_any _).mono ?_
  rintro e w0 ⟨rfl, b0⟩
  go_upto_region 4 with fail
  go_cut [3] (fun p wx => ∃ gb : Nat, p = .pointer (some ⟨gb, 0, none⟩) ∧ w.heap.size ≤ gb ∧ Blk wx gb 32 (cbs (part64 x 0)) ∧ Below w.heap.size w wx)
  case first =>
    go_wp2_with fail
    go_meet
    exact ⟨w0.heap.size, rfl, b0.size, Blk.new rfl rfl, b0.alloc b0.size _⟩
  case rest =>
    obtain ⟨gb, rfl, hgb, hbB, hbw⟩ := hcut
    go_wp2
    go_loopw [4] (fun i wr => ∃ k : Nat, k ≤ m ∧ i = .int .i64 k ∧ Blk wr gb 32 (cbs (part64 x k)) ∧ Below w.heap.size w wr) (fun i _ => m - (intOf i).toNat)
    case atStart => exact ⟨0, Nat.zero_le _, rfl, hbB, hbw⟩
    case round =>
      clear hbB hbw
      obtain ⟨k, hk, rfl, hbB, hbw⟩ := hrel
      by_cases hlt : k < m
      · have i0 : (0 : Int) ≤ (k : Int) := by omega
        have i1 : (k : Int) < (m : Int) := by omega
        have i2 : (k : Int) < 64 := by omega
        obtain ⟨bb, bo, rfl, hbl, hcell⟩ := (hB.on hbw).at_ (i := k) (by rw [Hnc.out.1]; exact hlt)
        have hkx : k < x.length := by rw [Hnc.out.1]; exact hlt
        have c0 := hcell k hkx
        have hset := part64_set x hkx (by rw [Hnc.out.1]; exact Hm.out)
        rw [List.getD_eq_getElem?_getD, List.getElem?_eq_getElem hkx] at hset
        have hl64 := part64_len x (k := k) (by omega) (by rw [Hnc.out.1]; exact Hm.out)
        have d0 := hbB.cell (i := k) (v := cb ((part64 x k).getD k 0)) (by rw [cbs_get, List.getElem?_eq_getElem (by omega), List.getD_eq_getElem?_getD, List.getElem?_eq_getElem (by omega)]; rfl)
        have f0 := hbB.free k
        generalize cb ((part64 x k).getD k 0) = old at *
        have hs2 := hbB.set_ k (cb x[k])
        rw [cbs_set] at hs2
        have hset' : (part64 x k).set k x[k] = part64 x (k + 1) := hset
        rw [hset'] at hs2
        have Hs2 := Lib.hid (And.intro hs2 hlt)
        have hnx2 := Lib.hid (fun v => hbw.setCell (p := ⟨gb, k, none⟩) hgb v)
        generalize hxk : x[k] = xk at *
        have h8 := xk.toNat_lt
        clear hset hset' hs2 hlt hk hl64 hcell hkx hxk
        go_wp2
        go_roundw
        case rel => exact ⟨k + 1, by have := Hs2.out.2; omega, by go_num, Hs2.out.1, hnx2.out _⟩
        case measure => simp [intOf]; have := Hs2.out.2; omega
      · have e : k = m := by omega
        subst e
        have i2 : ¬ (k : Int) < (k : Int) := by omega
        have i3 : (k : Int) < 64 := by omega
        have hxl := Hnc.out.1
        have hl64 := part64_len x (k := k) (by omega) (by have := Hm.out; omega)
        go_upto_region 9 with fail
        go_cut [] (fun wx => Blk wx gb 32 (cbs ((part64 x k).set k 128)) ∧ Below w.heap.size w wx)
        case first =>
          have d0 := hbB.cell (i := k) (v := cb ((part64 x k).getD k 0)) (by rw [cbs_get, List.getElem?_eq_getElem (by (try simp only [List.length_set]); omega), List.getD_eq_getElem?_getD, List.getElem?_eq_getElem (by (try simp only [List.length_set]); omega)]; rfl)
          have f0 := hbB.free k
          generalize cb ((part64 x k).getD k 0) = old at *
          have s1 := hbB.set_ k (cb (128))
          rw [cbs_set] at s1
          have t1 := hbw.setCell (p := ⟨gb, k, none⟩) hgb (cb (128))
          have Hs := Lib.hid (And.intro s1 t1)
          clear s1 t1 hbB hbw hl64 hxl
          go_wp2_with fail
          go_meet
          first | exact Hs.out | (rw [Hec.out]; exact Hs.out)
        case rest =>
        clear hbB hbw
        obtain ⟨hbB, hbw⟩ := hcut
        go_upto_region 10 with fail
        go_cut [] (fun wx => Blk wx gb 32 (cbs (((part64 x k).set k 128).set 62 (UInt8.ofNat (8 * k / 256)))) ∧ Below w.heap.size w wx)
        case first =>
          have d0 := hbB.cell (i := 62) (v := cb (((part64 x k).set k 128).getD 62 0)) (by rw [cbs_get, List.getElem?_eq_getElem (by (try simp only [List.length_set]); omega), List.getD_eq_getElem?_getD, List.getElem?_eq_getElem (by (try simp only [List.length_set]); omega)]; rfl)
          have f0 := hbB.free 62
          generalize cb (((part64 x k).set k 128).getD 62 0) = old at *
          have s1 := hbB.set_ 62 (cb (UInt8.ofNat (8 * k / 256)))
          rw [cbs_set] at s1
          have t1 := hbw.setCell (p := ⟨gb, 62, none⟩) hgb (cb (UInt8.ofNat (8 * k / 256)))
          have Hs := Lib.hid (And.intro s1 t1)
          have ec : Value.int .u8 (8 * (k : Int) / 256) = cb (UInt8.ofNat (8 * k / 256)) := by rw [← cb_mod]; congr 1; omega
          have Hec := Lib.hid ec
          clear ec
          clear s1 t1 hbB hbw hl64 hxl
          go_wp2_with fail
          go_meet
          first | exact Hs.out | (rw [Hec.out]; exact Hs.out)
        case rest =>
        clear hbB hbw
        obtain ⟨hbB, hbw⟩ := hcut
        go_upto_region 11 with fail
        go_cut [] (fun wx => Blk wx gb 32 (cbs ((((part64 x k).set k 128).set 62 (UInt8.ofNat (8 * k / 256))).set 63 (UInt8.ofNat (8 * k % 256)))) ∧ Below w.heap.size w wx)
        case first =>
          have d0 := hbB.cell (i := 63) (v := cb ((((part64 x k).set k 128).set 62 (UInt8.ofNat (8 * k / 256))).getD 63 0)) (by rw [cbs_get, List.getElem?_eq_getElem (by (try simp only [List.length_set]); omega), List.getD_eq_getElem?_getD, List.getElem?_eq_getElem (by (try simp only [List.length_set]); omega)]; rfl)
          have f0 := hbB.free 63
          generalize cb ((((part64 x k).set k 128).set 62 (UInt8.ofNat (8 * k / 256))).getD 63 0) = old at *
          have s1 := hbB.set_ 63 (cb (UInt8.ofNat (8 * k % 256)))
          rw [cbs_set] at s1
          have t1 := hbw.setCell (p := ⟨gb, 63, none⟩) hgb (cb (UInt8.ofNat (8 * k % 256)))
          have Hs := Lib.hid (And.intro s1 t1)
          have ec : Value.int .u8 (8 * (k : Int) % 256) = cb (UInt8.ofNat (8 * k % 256)) := by rw [← cb_mod]; congr 1; omega
          have Hec := Lib.hid ec
          clear ec
          clear s1 t1 hbB hbw hl64 hxl
          go_wp2_with fail
          go_meet
          first | exact Hs.out | (rw [Hec.out]; exact Hs.out)
        case rest =>
        clear hbB hbw
        obtain ⟨hbB, hbw⟩ := hcut
        have hol := one_last x (by rw [hxl]; exact Hm.out)
        rw [hxl] at hol
        rw [hol] at hbB
        have hl64' : (last x).length = 64 := by rw [last_len, if_pos (by have := Hm.out; omega)]
        obtain ⟨R, hR⟩ : ∃ R, R = rnd S8.first (last x) := ⟨_, rfl⟩
        have hro : ∀ W, Calls Try.prog 18 #[.agg #[.int .u32 1779033703, .int .u32 3144134277, .int .u32 1013904242, .int .u32 2773480762, .int .u32 1359893119, .int .u32 2600822924, .int .u32 528734635, .int .u32 1541459225], .agg (cbs (last x)).toArray] W fun e w' => e = .returned (.agg (l8 R).toArray) ∧ Below W.heap.size W w' := fun W => by
          rw [hR]; exact bigRound_any S8.first (last x) W hl64'
        have hdig : digest x = R.bytes := by rw [hR]; exact one_digest x (by rw [hxl]; exact Hm.out)
        have hi64 : (Try.prog.info? 32).map (·.size) = some (cbs (last x)).toArray.size := by rw [List.size_toArray, cbs_length, hl64']; exact info64b
        have Hro := Lib.hid hro
        have Hdig := Lib.hid hdig
        have Hi64 := Lib.hid hi64
        have Hbw := Lib.hid hbw
        clear hro hdig hi64 hR hol hl64' hbw
        go_upto_region 12 with fail
        go_cut [5] (fun p wx => ∃ gs : Nat, p = .pointer (some ⟨gs, 0, none⟩) ∧ w.heap.size ≤ gs ∧ Blk wx gs 31 (l8 R) ∧ Below w.heap.size w wx)
        case first =>
          go_wp2_with (refine wpList_load_row rfl 32 _ rfl gb rfl 32 (cbs (last x)).toArray (0, 0) _ hbB Try.underlying32 rfl Hi64.out ?_)
          refine (Hro.out _).mono ?_
          rintro e w4 ⟨rfl, b4⟩
          have t4 := Hbw.out.trans (b4.mono Hbw.out.size)
          have hZ : Blk (w4.alloc (.cells #[.int .u32 0, .int .u32 0, .int .u32 0, .int .u32 0, .int .u32 0, .int .u32 0, .int .u32 0, .int .u32 0] 31)) w4.heap.size 31 (l8 ⟨0, 0, 0, 0, 0, 0, 0, 0⟩) := Blk.new rfl rfl
          have hth : (w4.alloc (.cells #[.int .u32 0, .int .u32 0, .int .u32 0, .int .u32 0, .int .u32 0, .int .u32 0, .int .u32 0, .int .u32 0] 31)).there w4.heap.size 0 8 := hZ.there
          have hRb := hZ.setAll (vs := l8 R) rfl
          have hnx : Below w.heap.size w ((w4.alloc (.cells #[.int .u32 0, .int .u32 0, .int .u32 0, .int .u32 0, .int .u32 0, .int .u32 0, .int .u32 0, .int .u32 0] 31)).setCells w4.heap.size 0 (l8 R)) := Below.setCells t4.size _ (t4.alloc t4.size _)
          have Hth := Lib.hid hth
          have Hone := Lib.hid (show (l8 R).toArray.all (·.oneCell') = true from cws_one R.list)
          have Hq := Lib.hid (And.intro t4.size (And.intro hRb hnx))
          clear t4 hZ hth hRb hnx b4
          go_wp2_with (refine wpList_store_mid rfl 31 _ _ rfl w4.heap.size 0 (l8 R).toArray rfl rfl Hth.out info8w Hone.out ?_; simp only [Act.put])
          go_meet
          exact ⟨w4.heap.size, rfl, Hq.out⟩
        case rest =>
        clear hbB Hro Hi64 Hbw
        obtain ⟨gs, rfl, hgs, hsB, hbw⟩ := hcut
        have hB3 := hB.on hbw
        have Hc := Lib.hid (And.intro hsB (And.intro hbw hB3))
        clear hsB hbw hB3
        go_upto_region 13 with fail
        go_cut [6] (fun p wx => ∃ gd : Nat, p = .pointer (some ⟨gd, 0, none⟩) ∧ Blk wx gd 25 (cbs R.bytes) ∧ Blk wx gs 31 (l8 R) ∧ Below w.heap.size w wx)
        case first =>
          go_wp2_with fail
          obtain ⟨hsB, hbw, hB3⟩ := Hc.out
          have hof := of_any Aq k cq x _ hB3 Hnc.out.1 Hnc.out.2.1 Hnc.out.2.2.1 Hnc.out.2.2.2
          rw [Hdig.out] at hof
          refine hof.mono ?_
          clear hof
          rintro e w5 ⟨rfl, b5⟩
          have t5 := hbw.trans (b5.mono hbw.size)
          have hs5 := hsB.below b5 hsB.lt
          have hth := new_there w5 (cbs R.bytes) (by rw [cbs_length]; rfl)
          have hZ : Blk (w5.alloc (.cells (cbs (List.replicate 32 0)).toArray 25)) w5.heap.size 25 (cbs (List.replicate 32 0)) := Blk.new rfl rfl
          have hd5 := hZ.setAll (vs := cbs R.bytes) (by rw [cbs_length, cbs_length, List.length_replicate]; rfl)
          have hs6 := Blk.farAll (g' := w5.heap.size) (by have := hs5.lt; omega) (cbs R.bytes) (w := w5.alloc (.cells (cbs (List.replicate 32 0)).toArray 25)) (o := 0) (hs5.old _)
          have hnx : Below w.heap.size w ((w5.alloc (.cells (cbs (List.replicate 32 0)).toArray 25)).setCells w5.heap.size 0 (cbs R.bytes)) := Below.setCells t5.size _ (t5.alloc t5.size _)
          have hi : (Try.prog.info? 25).map (·.size) = some (cbs R.bytes).toArray.size := info32b
          have Hth := Lib.hid hth
          have Hi := Lib.hid hi
          have Hone := Lib.hid (cbs_one' R.bytes)
          have Hq := Lib.hid (And.intro hd5 (And.intro hs6 hnx))
          clear t5 hs5 hth hZ hd5 hs6 hnx hi b5 hsB hbw hB3
          generalize cbs R.bytes = D32 at *
          go_wp2_with (refine wpList_store_mid rfl 25 _ _ rfl w5.heap.size 0 D32.toArray rfl rfl Hth.out Hi.out Hone.out ?_; simp only [Act.put])
          go_meet
          exact ⟨w5.heap.size, rfl, Hq.out⟩
        case rest =>
        clear Hc
        obtain ⟨gd, rfl, hdB, hsB, hbw⟩ := hcut
        go_wp2
        go_loopw [7] (fun i wr => ∃ j : Nat, j ≤ 32 ∧ i = .int .i64 j ∧ Blk wr gd 25 (cbs R.bytes) ∧ Blk wr gs 31 (l8 R) ∧ Below w.heap.size w wr) (fun i _ => 32 - (intOf i).toNat)
        case atStart => exact ⟨0, by omega, rfl, hdB, hsB, hbw⟩
        case round =>
          clear hdB hsB hbw
          obtain ⟨j, hj, rfl, hdB, hsB, hbw⟩ := hrel
          by_cases hlt : j < 32
          · obtain ⟨iq, hiq⟩ : ∃ iq, iq = j / 4 := ⟨_, rfl⟩
            obtain ⟨ir, hir⟩ : ∃ ir, ir = j % 4 := ⟨_, rfl⟩
            obtain ⟨e8, he8⟩ : ∃ e8, e8 = 8 * ir := ⟨_, rfl⟩
            obtain ⟨sh, hsh⟩ : ∃ sh, sh = 24 - e8 := ⟨_, rfl⟩
            have c0 := hdB.cell (cbs_getD R.bytes j (by rw [bytes_len]; exact hlt))
            have c1 := hsB.cell (l8_at R (k := iq) (by omega))
            have hby := byte_at R iq ir (by omega) (by omega)
            rw [show 4 * iq + ir = j from by omega, show 24 - 8 * ir = sh from by omega] at hby
            have hwx := w_lt (R.list.getD iq 0)
            generalize R.list.getD iq 0 = x32 at *
            rw [hby] at c0
            have ey : ((UInt8.ofNat (x32.toNat / 2 ^ sh)).toNat : Int) = (x32.toNat : Int) / 2 ^ sh % 256 := by rw [UInt8.toNat_ofNat']; simp
            rw [ey] at c0
            have v1 : (j : Int) / 4 = (iq : Int) := by omega
            have v2 : (j : Int) % 4 = (ir : Int) := by omega
            have v3 : (j : Int).tdiv 4 = (iq : Int) := by rw [Int.tdiv_eq_ediv_of_nonneg (by omega)]; exact v1
            have v4 : (j : Int).tmod 4 = (ir : Int) := by rw [Int.tmod_eq_emod_of_nonneg (by omega)]; exact v2
            have v5 : 8 * (ir : Int) = (e8 : Int) := by omega
            have v6 : IntKind.i64.wrap (e8 : Int) = (e8 : Int) := IntWalk.i64_in _ (by omega)
            have v7 : 24 - (e8 : Int) = (sh : Int) := by omega
            have v8' : IntKind.i64.wrap (sh : Int) = (sh : Int) := IntWalk.i64_in _ (by omega)
            have v9 : IntKind.i64.wrap (iq : Int) = (iq : Int) := IntWalk.i64_in _ (by omega)
            have v10 : IntKind.i64.wrap (ir : Int) = (ir : Int) := IntWalk.i64_in _ (by omega)
            have i0 : (0 : Int) ≤ (j : Int) := by omega
            have i1 : (j : Int) < 32 := by omega
            have i2 : (0 : Int) ≤ (iq : Int) := by omega
            have i3 : (iq : Int) < 8 := by omega
            have i4 : (0 : Int) ≤ (sh : Int) := by omega
            have i5 : (sh : Int) ≤ 31 := by omega
            have i6 : ¬ (sh : Int) < 0 := by omega
            have Hj := Lib.hid hlt
            clear hby ey hiq hir he8 hsh hj hlt
            go_wp2
            go_quiet (fail)
            go_wp2
            go_roundw
            case rel =>
              exact ⟨j + 1, by have := Hj.out; omega, by go_num, hdB.drewN_ _, hsB.drewN_ _, below_drewN hbw _⟩
            case measure => simp [intOf]; have := Hj.out; omega
          · have e : j = 32 := by omega
            subst e
            have i2 : ¬ ((32 : Nat) : Int) < 32 := by omega
            clear hj hlt hdB hsB
            go_wp2
            go_ret
            exact ⟨rfl, hbw⟩

end Go.Proofs.Ytdhpkaffijbedaa.shaOneBlock
