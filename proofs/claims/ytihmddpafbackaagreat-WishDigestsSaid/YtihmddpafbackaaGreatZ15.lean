/-
  Laid together for a hand-in: Wd11, Pk11, Un11, Se11, Sm11.
-/
import Derived.Test.YtihmddpafbackaaGreatZ07
import Derived.Test.YtihmddpafbackaaGreatZ14
import Derived.Test.YtihmddpafbackaaGreatZ12
import Derived.Test.YtihmddpafbackaaGreatZ13
import Derived.Test.YtihmddpafbackaaGreatZ09
import Derived.Test.YtihmddpafbackaaGreatZ06

namespace Go.Proofs.YtihmddpafbackaaGreat
open Go.RowKit Go.Maps
set_option linter.unusedVariables false
set_option linter.unusedSimpArgs false

theorem wby_len (x : Wl) : (wbytes x).1.length ≤ 65536 := by
  by_cases hm : May x
  · unfold wbytes; rw [if_pos hm]; have := (wb_len hm).2; show (wb x).length ≤ 65536; omega
  · unfold wbytes; rw [if_neg hm]; exact Nat.zero_le _
/-- What a digest of written bytes, or of none, is: the digest, the error, the book's state. -/
def dgD (r : List UInt8 × Nat) : List UInt8 := if r.2 = 0 then ofD r.1 else List.replicate 32 0
def dgE (r : List UInt8 × Nat) : Int := if r.2 = 0 then ofE r.1 else (r.2 : Int)
def dgS (s : List (List UInt8) × Bool × Nat) (r : List UInt8 × Nat) : List (List UInt8) × Bool × Nat := if r.2 = 0 then stepL s r.1 else s
theorem dgD_len (r : List UInt8 × Nat) : (dgD r).length = 32 := by unfold dgD ofD; split; split; exact dlen _; rfl; rfl
theorem dg_cells (r : List UInt8 × Nat) : ∃ D : List Value, D.length = 32 ∧ cbs (dgD r) = D ∧ D.toArray.all (·.oneCell') = true := ⟨cbs (dgD r), by rw [cbs_length, dgD_len], rfl, cbs_one' _⟩
def DgPost (w : World) (S : Nat → Prop) (g : Nat) (s : List (List UInt8) × Bool × Nat) (r : List UInt8 × Nat) (w' : World) : Prop :=
  BookAt w' (Grown S w w') g (dgS s r).1 (dgS s r).2.1 (dgS s r).2.2 ∧ Out S w w'
theorem dg_bad {w w' : World} {S : Nat → Prop} {g : Nat} {s : List (List UInt8) × Bool × Nat} {r : List UInt8 × Nat} (h : BookAt w S g s.1 s.2.1 s.2.2) (hr : r.2 ≠ 0) (hb : Below w.heap.size w w') : DgPost w S g s r w' := by
  unfold DgPost dgS
  rw [if_neg hr]
  exact ⟨(h.below hb).more (fun i hi => .inl hi) (fun i hi => by
    rcases hi with hi | hi
    · exact Nat.lt_of_lt_of_le (h.lt hi) hb.size
    · exact hi.2), Out.ofBelow S hb⟩
theorem dg_ok {w w1 w2 : World} {S : Nat → Prop} {g gz : Nat} {s : List (List UInt8) × Bool × Nat} {r : List UInt8 × Nat} (h : BookAt w S g s.1 s.2.1 s.2.2) (hr : r.2 = 0) (hb : Below w.heap.size w w1) (hz : w.heap.size ≤ gz) (hz1 : gz < w1.heap.size)
    (h2 : BookAt w2 (Grown S w1 w2) g (ofL s.1 s.2.1 s.2.2 r.1).1 (ofL s.1 s.2.1 s.2.2 r.1).2.1 (ofL s.1 s.2.1 s.2.2 r.1).2.2) (ho : Out S w1 w2) (D : List Value) : DgPost w S g s r (w2.setCells gz 0 D) := by
  unfold DgPost dgS
  rw [if_pos hr]
  have hbs : But gz w2 (w2.setCells gz 0 D) := But.setCells (.inl rfl) D (But.refl _ _)
  have hlt : ∀ i, S i → i < w.heap.size := fun i hi => h.lt hi
  have hsz := hbs.size
  have hs1 := hb.size
  have hs2 := ho.size
  have hnot : ∀ i, Grown S w1 w2 i → i ≠ gz := fun i hi e => by
    rcases hi with hi | hi
    · have := hlt i hi; omega
    · omega
  refine ⟨(h2.stay hsz fun i hi => hbs.block i (h2.lt hi) fun e => hnot i hi (Option.some.inj e)).more (fun i hi => ?_) (fun i hi => ?_), ?_⟩
  · rcases hi with hi | hi
    · exact .inl hi
    · exact .inr ⟨by omega, by omega⟩
  · rcases hi with hi | hi
    · exact Nat.lt_of_lt_of_le (h2.lt (.inl hi)) hsz
    · exact hi.2
  · exact ((Out.ofBelow S hb).trans ho fun _ _ e => e).then_grown hbs fun i hi h => by injection hi with hi; omega

set_option maxRecDepth 100000 in
set_option maxHeartbeats 1600000 in
theorem bdigest_any (S : Nat → Prop) (g : Nat) (s : List (List UInt8) × Bool × Nat) (A : Option Addr) (n c : Nat) (l : List Wl) (w : World) (h : BookAt w S g s.1 s.2.1 s.2.2) (hL : s.1.length < 1000000) (hk : s.2.2 < 1000000) (hx : ArgL w A n c l) :
    Calls Tryz.prog 11 #[.pointer (some ⟨g, 0, none⟩), .slice A n c] w fun e w' => e = .returned (.tuple #[.agg (cbs (dgD (batchW l))).toArray, .int .i64 (dgE (batchW l))]) ∧ DgPost w S g s (batchW l) w' := by
  have hlen := (fun (h : (batchW l).2 = 0) => (show (batchW l).1.length ≤ 65536 by have h1 := batch_ok h; rw [h1.2.2]; have := (btB_len h1.1 h1.2.1).2; omega))
  obtain ⟨r, hr⟩ : ∃ r, batchW l = r := ⟨_, rfl⟩
  obtain ⟨D, hD32, hDe, hD1⟩ := dg_cells r
  have hby := batch_any A n c l _ (hx.after (show Below w.heap.size w (w.alloc (.cells (cbs (List.replicate 32 0)).toArray 32)) from (Below.refl _ _).alloc (Nat.le_refl _) _))
  rw [hr] at hby hlen ⊢
  rw [hDe]
  have hZ : Blk (w.alloc (.cells (cbs (List.replicate 32 0)).toArray 32)) (w.heap.size) 32 (cbs (List.replicate 32 0)) := Blk.new (l := cbs (List.replicate 32 0)) rfl rfl
  have hb0 : Below w.heap.size w (w.alloc (.cells (cbs (List.replicate 32 0)).toArray 32)) := (Below.refl _ _).alloc (Nat.le_refl _) _
  have H := Lib.hid (And.intro h (And.intro hZ (And.intro hb0 (And.intro hD32 (And.intro hDe (And.intro hD1 (And.intro hL hk)))))))
  have Hby := Lib.hid hby
  have hi : (Tryz.prog.info? 32).map (·.size) = some D.toArray.size := by rw [List.size_toArray, hD32]; exact info32b
  have Hi := Lib.hid hi
  have Hgz := Lib.hid (show w.heap.size ≤ w.heap.size ∧ w.heap.size ≤ w.heap.size + 1 by omega)
  by_cases h0 : r.2 = 0
  · have hrn : ∃ n, r.1.length = n := ⟨_, rfl⟩
    obtain ⟨n0, hn0⟩ := hrn
    have e2 : dgE r = ofE r.1 := by unfold dgE; rw [if_pos h0]
    have e3 : ofE r.1 = 0 := by unfold ofE; rw [if_pos (by have := hlen h0; omega)]
    have e4 : dgD r = ofD r.1 := by unfold dgD; rw [if_pos h0]
    have he : ((r.2 : Nat) : Int) = 0 := by rw [h0]; rfl
    have hn6 := hlen h0
    rw [e2, e3]
    have Hr := Lib.hid (And.intro h0 (And.intro hn0 (And.intro hn6 e4)))
    have He := Lib.hid he
    clear hr h0 hn0 e2 e3 e4 hn6 he hlen hi hby hZ hb0 hL hk hD32 hDe hD1 h hx
    go_enter Tryz.func11, Tryz.ntmps11
    go_wp2_with fail
    refine Hby.out.mono ?_
    rintro e w1 ⟨v, rfl, hN⟩
    obtain ⟨A1, c1, rfl, hl1, hc1, hB1⟩ := hN.form
    rw [Hr.out.2.1] at hl1
    rw [Hr.out.2.1, He.out]
    have hb1 := H.out.2.2.1.trans (hN.2.mono H.out.2.2.1.size)
    have Hof := Lib.hid (bof_any S g s.1 s.2.1 s.2.2 A1 n0 c1 r.1 w1 (H.out.1.below hb1) H.out.2.2.2.2.2.2.1 H.out.2.2.2.2.2.2.2 hB1 Hr.out.2.1 hl1 hc1)
    have hofe : ofE r.1 = 0 := by unfold ofE; rw [if_pos Hr.out.2.2.1]
    rw [hofe, ← Hr.out.2.2.2, H.out.2.2.2.2.1] at Hof
    have hZ1 := H.out.2.1.below hN.2 H.out.2.1.lt
    have H1 := Lib.hid (And.intro hb1 hZ1)
    clear hN hb1 hZ1 hofe hl1 hc1 hB1
    go_wp2_with fail
    refine Hof.out.mono ?_
    rintro e w2 ⟨rfl, hBk, hO⟩
    have hgS : ¬ S (w.heap.size) := fun e => by have := H.out.1.lt e; have := Hgz.out; omega
    have hZ2 := hO.blk H1.out.2 hgS
    have hth : w2.there (w.heap.size) 0 D.toArray.size := by
      have e := hZ2.there
      rw [cbs_length, List.length_replicate] at e
      have e32 : D.toArray.size = 32 := by rw [List.size_toArray]; exact H.out.2.2.2.1
      rw [e32]; exact e
    have hR := hZ2.setAll (vs := D) (by rw [H.out.2.2.2.1, cbs_length, List.length_replicate])
    have hP := dg_ok (s := s) (r := r) H.out.1 Hr.out.1 H1.out.1 (show w.heap.size ≤ w.heap.size by have := Hgz.out; omega) H1.out.2.lt hBk hO D
    have H2 := Lib.hid (And.intro hth (And.intro hR hP))
    clear hBk hO hgS hZ2 hth hR hP
    go_wp2_with (refine wpList_store_mid rfl 32 _ _ rfl (w.heap.size) 0 D.toArray rfl rfl H2.out.1 Hi.out H.out.2.2.2.2.2.1 ?_)
    refine bodyPost_ret (results_row_tmp3 rfl _ _ (w.heap.size) 32 D.toArray (0, 0) _ rfl H2.out.2.1 Tryz.underlying32 rfl Hi.out) rfl ?_
    exact ⟨rfl, H2.out.2.2⟩
  · obtain ⟨k, hk2⟩ : ∃ k, r.2 = k := ⟨_, rfl⟩
    have e2 : dgE r = (k : Int) := by unfold dgE; rw [if_neg h0, hk2]
    have e4 : dgD r = List.replicate 32 0 := by unfold dgD; rw [if_neg h0]
    have hne : ((k : Int) != 0) = true := by simp only [bne_iff_ne, ne_eq]; omega
    have Hk2 := Lib.hid hk2
    rw [e4] at hDe
    have Hr := Lib.hid (And.intro h0 e4)
    rw [e2, ← hDe]
    have Hde := Lib.hid hDe
    clear hr h0 e2 e4 hlen hi hby hZ hb0 hL hk hD32 hDe hD1 h hk2 hx
    go_enter Tryz.func11, Tryz.ntmps11
    go_wp2_with fail
    refine Hby.out.mono ?_
    rintro e w1 ⟨v, rfl, hN⟩
    obtain ⟨A1, c1, rfl, hl1, hc1, hB1⟩ := hN.form
    rw [Hk2.out]
    have hb1 := H.out.2.2.1.trans (hN.2.mono H.out.2.2.1.size)
    have hZ1 := H.out.2.1.below hN.2 H.out.2.1.lt
    have hth : w1.there (w.heap.size) 0 (cbs (List.replicate 32 0)).toArray.size := hZ1.there
    have hR := hZ1.setAll (vs := cbs (List.replicate 32 0)) rfl
    have hb2 : Below w.heap.size w (w1.setCells (w.heap.size) 0 (cbs (List.replicate 32 0))) := Below.setCells (by have := Hgz.out; omega) _ hb1
    have hP := dg_bad (s := s) (r := r) H.out.1 Hr.out.1 hb2
    have H2 := Lib.hid (And.intro hth (And.intro hR hP))
    clear hN hb1 hZ1 hl1 hc1 hB1 hth hR hb2 hP
    go_wp2_with (refine wpList_store_mid rfl 32 _ _ rfl (w.heap.size) 0 (cbs (List.replicate 32 0)).toArray rfl rfl H2.out.1 info32b (cbs_one' _) ?_)
    refine bodyPost_ret (results_row_tmp3 rfl _ _ (w.heap.size) 32 (cbs (List.replicate 32 0)).toArray (0, 0) _ rfl H2.out.2.1 Tryz.underlying32 rfl info32b) rfl ?_
    exact ⟨rfl, H2.out.2.2⟩

set_option maxRecDepth 100000 in
set_option maxHeartbeats 1600000 in
theorem wdigest_any (S : Nat → Prop) (g : Nat) (s : List (List UInt8) × Bool × Nat) (x : Wl) (Dx : Option Addr) (ndx cdx : Nat) (Nx : Option Addr) (nnx cnx : Nat) (w : World) (h : BookAt w S g s.1 s.2.1 s.2.2) (hL : s.1.length < 1000000) (hk : s.2.2 < 1000000) (hx : ArgW w x Dx ndx cdx Nx nnx cnx) :
    Calls Tryz.prog 9 #[.pointer (some ⟨g, 0, none⟩), .agg #[.int .i64 x.cl, .int .i64 x.sp, .int .i64 x.gr, .int .i64 x.ep, .int .i64 x.kd, .int .i64 x.bl, .slice Dx ndx cdx, .int .i64 x.od, .int .i64 x.nw, .slice Nx nnx cnx]] w fun e w' => e = .returned (.tuple #[.agg (cbs (dgD (wbytes x))).toArray, .int .i64 (dgE (wbytes x))]) ∧ DgPost w S g s (wbytes x) w' := by
  have hlen := (fun (_ : (wbytes x).2 = 0) => wby_len x)
  obtain ⟨r, hr⟩ : ∃ r, wbytes x = r := ⟨_, rfl⟩
  obtain ⟨D, hD32, hDe, hD1⟩ := dg_cells r
  have hby := bytes_wish x Dx ndx cdx Nx nnx cnx _ (hx.after (show Below w.heap.size w ((w.alloc (.cells #[.int .i64 x.cl, .int .i64 x.sp, .int .i64 x.gr, .int .i64 x.ep, .int .i64 x.kd, .int .i64 x.bl, .slice Dx ndx cdx, .int .i64 x.od, .int .i64 x.nw, .slice Nx nnx cnx] 25)).alloc (.cells (cbs (List.replicate 32 0)).toArray 32)) from ((Below.refl _ _).alloc (Nat.le_refl _) _).alloc (by simp) _))
  rw [hr] at hby hlen ⊢
  rw [hDe]
  have hZ : Blk ((w.alloc (.cells #[.int .i64 x.cl, .int .i64 x.sp, .int .i64 x.gr, .int .i64 x.ep, .int .i64 x.kd, .int .i64 x.bl, .slice Dx ndx cdx, .int .i64 x.od, .int .i64 x.nw, .slice Nx nnx cnx] 25)).alloc (.cells (cbs (List.replicate 32 0)).toArray 32)) (w.heap.size + 1) 32 (cbs (List.replicate 32 0)) := Blk.new (l := cbs (List.replicate 32 0)) rfl (by simp)
  have hb0 : Below w.heap.size w ((w.alloc (.cells #[.int .i64 x.cl, .int .i64 x.sp, .int .i64 x.gr, .int .i64 x.ep, .int .i64 x.kd, .int .i64 x.bl, .slice Dx ndx cdx, .int .i64 x.od, .int .i64 x.nw, .slice Nx nnx cnx] 25)).alloc (.cells (cbs (List.replicate 32 0)).toArray 32)) := ((Below.refl _ _).alloc (Nat.le_refl _) _).alloc (by simp) _
  have hX : Blk ((w.alloc (.cells #[.int .i64 x.cl, .int .i64 x.sp, .int .i64 x.gr, .int .i64 x.ep, .int .i64 x.kd, .int .i64 x.bl, .slice Dx ndx cdx, .int .i64 x.od, .int .i64 x.nw, .slice Nx nnx cnx] 25)).alloc (.cells (cbs (List.replicate 32 0)).toArray 32)) w.heap.size 25 [.int .i64 x.cl, .int .i64 x.sp, .int .i64 x.gr, .int .i64 x.ep, .int .i64 x.kd, .int .i64 x.bl, .slice Dx ndx cdx, .int .i64 x.od, .int .i64 x.nw, .slice Nx nnx cnx] := (Blk.new (l := [.int .i64 x.cl, .int .i64 x.sp, .int .i64 x.gr, .int .i64 x.ep, .int .i64 x.kd, .int .i64 x.bl, .slice Dx ndx cdx, .int .i64 x.od, .int .i64 x.nw, .slice Nx nnx cnx]) rfl rfl).old _
  have k0 := hX.cell (i := 0) rfl
  have k1 := hX.cell (i := 1) rfl
  have k2 := hX.cell (i := 2) rfl
  have k3 := hX.cell (i := 3) rfl
  have k4 := hX.cell (i := 4) rfl
  have k5 := hX.cell (i := 5) rfl
  have k6 := hX.cell (i := 6) rfl
  have k7 := hX.cell (i := 7) rfl
  have k8 := hX.cell (i := 8) rfl
  have k9 := hX.cell (i := 9) rfl
  have H := Lib.hid (And.intro h (And.intro hZ (And.intro hb0 (And.intro hD32 (And.intro hDe (And.intro hD1 (And.intro hL hk)))))))
  have Hby := Lib.hid hby
  have hi : (Tryz.prog.info? 32).map (·.size) = some D.toArray.size := by rw [List.size_toArray, hD32]; exact info32b
  have Hi := Lib.hid hi
  have Hgz := Lib.hid (show w.heap.size ≤ w.heap.size + 1 ∧ w.heap.size ≤ w.heap.size + 1 by omega)
  by_cases h0 : r.2 = 0
  · have hrn : ∃ n, r.1.length = n := ⟨_, rfl⟩
    obtain ⟨n0, hn0⟩ := hrn
    have e2 : dgE r = ofE r.1 := by unfold dgE; rw [if_pos h0]
    have e3 : ofE r.1 = 0 := by unfold ofE; rw [if_pos (by have := hlen h0; omega)]
    have e4 : dgD r = ofD r.1 := by unfold dgD; rw [if_pos h0]
    have he : ((r.2 : Nat) : Int) = 0 := by rw [h0]; rfl
    have hn6 := hlen h0
    rw [e2, e3]
    have Hr := Lib.hid (And.intro h0 (And.intro hn0 (And.intro hn6 e4)))
    have He := Lib.hid he
    clear hr h0 hn0 e2 e3 e4 hn6 he hlen hi hby hZ hb0 hL hk hD32 hDe hD1 h hx hX
    go_enter Tryz.func9, Tryz.ntmps9
    go_wp2_with fail
    refine Hby.out.mono ?_
    rintro e w1 ⟨v, rfl, hN⟩
    obtain ⟨A1, c1, rfl, hl1, hc1, hB1⟩ := hN.form
    rw [Hr.out.2.1] at hl1
    rw [Hr.out.2.1, He.out]
    have hb1 := H.out.2.2.1.trans (hN.2.mono H.out.2.2.1.size)
    have Hof := Lib.hid (bof_any S g s.1 s.2.1 s.2.2 A1 n0 c1 r.1 w1 (H.out.1.below hb1) H.out.2.2.2.2.2.2.1 H.out.2.2.2.2.2.2.2 hB1 Hr.out.2.1 hl1 hc1)
    have hofe : ofE r.1 = 0 := by unfold ofE; rw [if_pos Hr.out.2.2.1]
    rw [hofe, ← Hr.out.2.2.2, H.out.2.2.2.2.1] at Hof
    have hZ1 := H.out.2.1.below hN.2 H.out.2.1.lt
    have H1 := Lib.hid (And.intro hb1 hZ1)
    clear hN hb1 hZ1 hofe hl1 hc1 hB1
    go_wp2_with fail
    refine Hof.out.mono ?_
    rintro e w2 ⟨rfl, hBk, hO⟩
    have hgS : ¬ S (w.heap.size + 1) := fun e => by have := H.out.1.lt e; have := Hgz.out; omega
    have hZ2 := hO.blk H1.out.2 hgS
    have hth : w2.there (w.heap.size + 1) 0 D.toArray.size := by
      have e := hZ2.there
      rw [cbs_length, List.length_replicate] at e
      have e32 : D.toArray.size = 32 := by rw [List.size_toArray]; exact H.out.2.2.2.1
      rw [e32]; exact e
    have hR := hZ2.setAll (vs := D) (by rw [H.out.2.2.2.1, cbs_length, List.length_replicate])
    have hP := dg_ok (s := s) (r := r) H.out.1 Hr.out.1 H1.out.1 (show w.heap.size ≤ w.heap.size + 1 by have := Hgz.out; omega) H1.out.2.lt hBk hO D
    have H2 := Lib.hid (And.intro hth (And.intro hR hP))
    clear hBk hO hgS hZ2 hth hR hP
    go_wp2_with (refine wpList_store_mid rfl 32 _ _ rfl (w.heap.size + 1) 0 D.toArray rfl rfl H2.out.1 Hi.out H.out.2.2.2.2.2.1 ?_)
    refine bodyPost_ret (results_row_tmp3 rfl _ _ (w.heap.size + 1) 32 D.toArray (0, 0) _ rfl H2.out.2.1 Tryz.underlying32 rfl Hi.out) rfl ?_
    exact ⟨rfl, H2.out.2.2⟩
  · obtain ⟨k, hk2⟩ : ∃ k, r.2 = k := ⟨_, rfl⟩
    have e2 : dgE r = (k : Int) := by unfold dgE; rw [if_neg h0, hk2]
    have e4 : dgD r = List.replicate 32 0 := by unfold dgD; rw [if_neg h0]
    have hne : ((k : Int) != 0) = true := by simp only [bne_iff_ne, ne_eq]; omega
    have Hk2 := Lib.hid hk2
    rw [e4] at hDe
    have Hr := Lib.hid (And.intro h0 e4)
    rw [e2, ← hDe]
    have Hde := Lib.hid hDe
    clear hr h0 e2 e4 hlen hi hby hZ hb0 hL hk hD32 hDe hD1 h hk2 hx hX
    go_enter Tryz.func9, Tryz.ntmps9
    go_wp2_with fail
    refine Hby.out.mono ?_
    rintro e w1 ⟨v, rfl, hN⟩
    obtain ⟨A1, c1, rfl, hl1, hc1, hB1⟩ := hN.form
    rw [Hk2.out]
    have hb1 := H.out.2.2.1.trans (hN.2.mono H.out.2.2.1.size)
    have hZ1 := H.out.2.1.below hN.2 H.out.2.1.lt
    have hth : w1.there (w.heap.size + 1) 0 (cbs (List.replicate 32 0)).toArray.size := hZ1.there
    have hR := hZ1.setAll (vs := cbs (List.replicate 32 0)) rfl
    have hb2 : Below w.heap.size w (w1.setCells (w.heap.size + 1) 0 (cbs (List.replicate 32 0))) := Below.setCells (by have := Hgz.out; omega) _ hb1
    have hP := dg_bad (s := s) (r := r) H.out.1 Hr.out.1 hb2
    have H2 := Lib.hid (And.intro hth (And.intro hR hP))
    clear hN hb1 hZ1 hl1 hc1 hB1 hth hR hb2 hP
    go_wp2_with (refine wpList_store_mid rfl 32 _ _ rfl (w.heap.size + 1) 0 (cbs (List.replicate 32 0)).toArray rfl rfl H2.out.1 info32b (cbs_one' _) ?_)
    refine bodyPost_ret (results_row_tmp3 rfl _ _ (w.heap.size + 1) 32 (cbs (List.replicate 32 0)).toArray (0, 0) _ rfl H2.out.2.1 Tryz.underlying32 rfl info32b) rfl ?_
    exact ⟨rfl, H2.out.2.2⟩

end Go.Proofs.YtihmddpafbackaaGreat

namespace Go.Proofs.YtihmddpafbackaaGreat

open Go.RowKit Go.Maps

set_option linter.unusedVariables false

set_option linter.unusedSimpArgs false

theorem W0_nm : WNm W0 := by
  unfold WNm W0 Nm
  simp

theorem parse_nm (l : List UInt8) : WNm (parse l).1 := by
  by_cases h1 : ren (rdw (l, 0)).2 ≠ 0
  · have e : parse l = (W0, ren (rdw (l, 0)).2) := by unfold parse; rw [if_pos h1]
    rw [e]; exact W0_nm
  · by_cases h2 : May (rdw (l, 0)).1
    · have e : parse l = ((rdw (l, 0)).1, 0) := by unfold parse; rw [if_neg h1, if_pos h2]
      rw [e]
      show WNm (rdw (l, 0)).1
      exact rdw_nm (l, 0)
    · have e : parse l = (W0, 2) := by unfold parse; rw [if_neg h1, if_neg h2]
      rw [e]; exact W0_nm

set_option maxRecDepth 100000 in
set_option maxHeartbeats 3200000 in
theorem packed_rd (B0 g : Nat) (s : Rd) (w : World) (h : RdP B0 w g s) : Calls Tryz.prog 46 #[.pointer (some ⟨g, 0, none⟩)] w (RetW 74 B0 g w (rp s)) := by
  have hglt := h.lt
  obtain ⟨b, s1, e1⟩ : ∃ a b, rt 256 s = (a, b) := ⟨_, _, rfl⟩
  obtain ⟨x, z, e2⟩ : ∃ a c, parse b = (a, c) := ⟨_, _, (Prod.eta (parse b)).symm⟩
  have hxn : WNm x := by have := parse_nm b; rw [e2] at this; exact this
  have hbl : b.length ≤ 65536 := by have := rt_len 256 s; rw [e1] at this; exact this
  have hr : Hid (rp s = if s1.2 ≠ 0 then (W0, s1) else (x, (s1.1, z))) := by show _ = _; unfold rp; simp only [e1, e2]
  have hB0 := h.1
  have hb0 : Below w.heap.size w (w.alloc (.cells #[.int .i64 0, .int .i64 0, .int .i64 0, .int .i64 0, .int .i64 0, .int .i64 0, .slice none 0 0, .int .i64 0, .int .i64 0, .slice none 0 0] 25)) := (Below.refl _ _).alloc (Nat.le_refl _) _
  have hz0 : Blk (w.alloc (.cells #[.int .i64 0, .int .i64 0, .int .i64 0, .int .i64 0, .int .i64 0, .int .i64 0, .slice none 0 0, .int .i64 0, .int .i64 0, .slice none 0 0] 25)) w.heap.size 25 zWish := Blk.new rfl rfl
  obtain ⟨W1, hW1⟩ : ∃ W, w.alloc (.cells #[.int .i64 0, .int .i64 0, .int .i64 0, .int .i64 0, .int .i64 0, .int .i64 0, .slice none 0 0, .int .i64 0, .int .i64 0, .slice none 0 0] 25) = W := ⟨_, rfl⟩
  rw [hW1] at hb0 hz0
  have H1 := Lib.hid (And.intro (h.bel hb0) (And.intro hz0 (And.intro hb0 hz0.lt)))
  have HW := Lib.hid hW1
  have HE := Lib.hid (And.intro e1 (And.intro e2 (And.intro hxn hbl)))
  clear h hb0 hz0 hW1 e1 e2 hxn hbl
  generalize rp s = r at *
  go_enter Tryz.func46, Tryz.ntmps46
  go_wp2_with fail
  rw [HW.out]
  have hc := text_rd B0 g 256 s _ H1.out.1 (by omega)
  rw [HE.out.1] at hc
  refine hc.mono ?_
  clear hc
  rintro e w2 ⟨v, rfl, hM, hR, hO⟩
  obtain ⟨A2, c2, rfl, hl2, hc2, hB2⟩ := Mine.form hM
  have hr2 := hO.blk H1.out.2.1 (by omega)
  obtain ⟨hBg, A, n, c, hbk, g1, g2, g3, g4⟩ := id hR
  have k1 : w2.cell? ⟨g, 1, none⟩ = some (.int .i64 (s1.2 : Int)) := hbk.cell rfl
  have hOw : Og g w w2 := (Out.ofBelow _ H1.out.2.2.1).trans hO (fun _ _ e => e)
  have hsz := Nat.lt_of_lt_of_le H1.out.2.2.2 hO.size
  have H2 := Lib.hid (And.intro hR (And.intro hr2 (And.intro hOw (And.intro hbk (And.intro hB2 hsz)))))
  clear hM hR hO hr2 hOw hbk hB2 g4 hsz
  simp only at hl2 ⊢
  obtain ⟨n2, hn2⟩ : ∃ n, b.length = n := ⟨_, rfl⟩
  rw [hn2] at hl2 ⊢
  have hn6 : n2 ≤ 65536 := by rw [← hn2]; exact HE.out.2.2.2
  have Hn2 := Lib.hid hn2
  clear hn2
  by_cases hz : s1.2 ≠ 0
  · have hzz : (((s1.2 : Nat) : Int) != 0) = true := by simp [hz]
    have Hr : Hid (r = (W0, s1)) := by show _ = _; rw [hr.out, if_pos hz]
    clear hz
    obtain ⟨t1, t2, t3⟩ := store_facts (vs := [.int .i64 0, .int .i64 0, .int .i64 0, .int .i64 0, .int .i64 0, .int .i64 0, .slice none 0 0, .int .i64 0, .int .i64 0, .slice none 0 0]) H2.out.2.1 rfl rfl
    obtain ⟨wF, hwF0⟩ : ∃ W, w2.setCells w.heap.size 0 [.int .i64 0, .int .i64 0, .int .i64 0, .int .i64 0, .int .i64 0, .int .i64 0, .slice none 0 0, .int .i64 0, .int .i64 0, .slice none 0 0] = W := ⟨_, rfl⟩
    have hwF : w2.setCells w.heap.size 0 ([.int .i64 0, .int .i64 0, .int .i64 0, .int .i64 0, .int .i64 0, .int .i64 0, .slice none 0 0, .int .i64 0, .int .i64 0, .slice none 0 0] : List Value).toArray.toList = wF := hwF0
    have hone : ([.int .i64 0, .int .i64 0, .int .i64 0, .int .i64 0, .int .i64 0, .int .i64 0, .slice none 0 0, .int .i64 0, .int .i64 0, .slice none 0 0] : List Value).toArray.all (·.oneCell') = true := by simp [Value.oneCell']
    rw [hwF0] at t2 t3
    have hRF : RdP B0 wF g s1 := H2.out.1.out t3 (by omega) (fun i _ e => by subst e; exact Nu.blk H2.out.2.1 (by omega) wish_u8)
    have hOF : Og g w wF := H2.out.2.2.1.trans t3 (fun i hi e => by omega)
    have HS := Lib.hid (And.intro t1 (And.intro t2 (And.intro hRF (And.intro hOF (And.intro hone hwF)))))
    clear t1 t2 t3 hRF hOF hone hwF hwF0
    go_upto_region 3 with fail
    go_wp2_with (first
      | (refine wpList_build_g (by rfl) 25 _ rfl ([.int .i64 0, .int .i64 0, .int .i64 0, .int .i64 0, .int .i64 0, .int .i64 0, .slice none 0 0, .int .i64 0, .int .i64 0, .slice none 0 0] : List Value).toArray built0 ?_; simp only [Act.put])
      | (refine wpList_store_mid rfl 25 _ _ rfl w.heap.size 0 ([.int .i64 0, .int .i64 0, .int .i64 0, .int .i64 0, .int .i64 0, .int .i64 0, .slice none 0 0, .int .i64 0, .int .i64 0, .slice none 0 0] : List Value).toArray rfl rfl HS.out.1 wish_size HS.out.2.2.2.2.1 ?_; simp only [Act.put]; refine cast (congrArg (fun z => wpList _ _ _ _ _ z) HS.out.2.2.2.2.2.symm) ?_))
    refine bodyPost_ret (results_row rfl _ _ w.heap.size 25 _ _ rfl HS.out.2.1 Tryz.underlying25 rfl wish_size) rfl ?_
    rw [Hr.out]
    exact ⟨_, rfl, WV.zero _ _, HS.out.2.2.1, HS.out.2.2.2.1⟩
  · have hzz : (((s1.2 : Nat) : Int) != 0) = false := by simpa using hz
    have Hr : Hid (r = (x, (s1.1, z))) := by show _ = _; rw [hr.out, if_neg hz]
    clear hz
    go_wp2_with fail
    have hc := parse_any A2 n2 c2 b w2 H2.out.2.2.2.2.1 Hn2.out hl2 hc2 (by omega)
    rw [HE.out.2.1] at hc
    refine hc.mono ?_
    clear hc
    rintro e w3 ⟨v, rfl, hV, hb3⟩
    obtain ⟨Dx, ndx, cdx, Nx, nnx, cnx, rfl, hAW, hM, hN⟩ := hV.arg HE.out.2.2.1
    have hb4 : Below w3.heap.size w3 (w3.alloc (.cells #[.int .i64 x.cl, .int .i64 x.sp, .int .i64 x.gr, .int .i64 x.ep, .int .i64 x.kd, .int .i64 x.bl, .slice Dx ndx cdx, .int .i64 x.od, .int .i64 x.nw, .slice Nx nnx cnx] 25)) := (Below.refl _ _).alloc (Nat.le_refl _) _
    have hk4 : Blk (w3.alloc (.cells #[.int .i64 x.cl, .int .i64 x.sp, .int .i64 x.gr, .int .i64 x.ep, .int .i64 x.kd, .int .i64 x.bl, .slice Dx ndx cdx, .int .i64 x.od, .int .i64 x.nw, .slice Nx nnx cnx] 25)) w3.heap.size 25 [.int .i64 x.cl, .int .i64 x.sp, .int .i64 x.gr, .int .i64 x.ep, .int .i64 x.kd, .int .i64 x.bl, .slice Dx ndx cdx, .int .i64 x.od, .int .i64 x.nw, .slice Nx nnx cnx] := Blk.new rfl rfl
    obtain ⟨W4, hW4⟩ : ∃ W, w3.alloc (.cells #[.int .i64 x.cl, .int .i64 x.sp, .int .i64 x.gr, .int .i64 x.ep, .int .i64 x.kd, .int .i64 x.bl, .slice Dx ndx cdx, .int .i64 x.od, .int .i64 x.nw, .slice Nx nnx cnx] 25) = W := ⟨_, rfl⟩
    rw [hW4] at hb4 hk4
    obtain ⟨bx, hbx⟩ : ∃ b, w3.heap.size = b := ⟨_, rfl⟩
    rw [hbx] at hk4
    have hb24 : Below w2.heap.size w2 W4 := hb3.trans (hb4.mono hb3.size)
    have hbxg : w2.heap.size ≤ bx := by rw [← hbx]; exact hb3.size
    have hbr := H2.out.2.2.2.1.below hb24 H2.out.2.2.2.1.lt
    have kg : W4.cell? ⟨g, 1, none⟩ = some (.int .i64 (s1.2 : Int)) := hbr.cell rfl
    have fg := hbr.free 1
    have hrb := H2.out.2.1.below hb24 H2.out.2.1.lt
    have hst : Out (fun i => i = g) W4 (W4.setCell ⟨g, 1, none⟩ (.int .i64 (z : Int))) := (Out.refl (fun i => i = g) W4).setCell (p := ⟨g, 1, none⟩) (fun _ => rfl) _
    have hR5 : RdP B0 (W4.setCell ⟨g, 1, none⟩ (.int .i64 (z : Int))) g (s1.1, z) := by
      obtain ⟨_, A', n', c', hbk', q1, q2, q3, q4⟩ := H2.out.1.bel hb24
      have e0 : s1.2 = 0 := by simpa using hzz
      refine ⟨hB0, A', n', c', hbk'.set_ 1 _, q1, q2, q3, fun _ => ⟨(q4 e0).1, (q4 e0).2.out hst (fun i _ e => by subst e; exact Nu.blk hbr hB0 rd_u8)⟩⟩
    have hk5 := hst.blk hk4 (by have := H2.out.1.lt; omega)
    have hr5 := hst.blk hrb (by omega)
    have hM5 : Mine (W4.setCell ⟨g, 1, none⟩ (.int .i64 (z : Int))) w2.heap.size 5 (.slice Dx ndx cdx) x.da := own_out (own_below hM hb4) hst (fun i hi e => by have := (World.ownsRow.lt hM i hi).1; have := H2.out.2.2.2.2.2; have := H2.out.1.lt; omega)
    have hN5 : OwnI (W4.setCell ⟨g, 1, none⟩ (.int .i64 (z : Int))) w2.heap.size (.slice Nx nnx cnx) x.nx := own_out (own_below hN hb4) hst (fun i hi e => by have := (World.ownsRow.lt hN i hi).1; have := H2.out.2.2.2.2.2; have := H2.out.1.lt; omega)
    have hO5 : Og g w (W4.setCell ⟨g, 1, none⟩ (.int .i64 (z : Int))) := (H2.out.2.2.1.then_below hb24).trans hst (fun _ _ e => e)
    obtain ⟨W5, hW5⟩ : ∃ W, W4.setCell ⟨g, 1, none⟩ (.int .i64 (z : Int)) = W := ⟨_, rfl⟩
    rw [hW5] at hR5 hk5 hr5 hM5 hN5 hO5
    obtain ⟨t1, t2, t3⟩ := store_facts (vs := [.int .i64 x.cl, .int .i64 x.sp, .int .i64 x.gr, .int .i64 x.ep, .int .i64 x.kd, .int .i64 x.bl, .slice Dx ndx cdx, .int .i64 x.od, .int .i64 x.nw, .slice Nx nnx cnx]) hr5 rfl rfl
    obtain ⟨wF, hwF0⟩ : ∃ W, W5.setCells w.heap.size 0 [.int .i64 x.cl, .int .i64 x.sp, .int .i64 x.gr, .int .i64 x.ep, .int .i64 x.kd, .int .i64 x.bl, .slice Dx ndx cdx, .int .i64 x.od, .int .i64 x.nw, .slice Nx nnx cnx] = W := ⟨_, rfl⟩
    have hwF : W5.setCells w.heap.size 0 ([.int .i64 x.cl, .int .i64 x.sp, .int .i64 x.gr, .int .i64 x.ep, .int .i64 x.kd, .int .i64 x.bl, .slice Dx ndx cdx, .int .i64 x.od, .int .i64 x.nw, .slice Nx nnx cnx] : List Value).toArray.toList = wF := hwF0
    have hone : ([.int .i64 x.cl, .int .i64 x.sp, .int .i64 x.gr, .int .i64 x.ep, .int .i64 x.kd, .int .i64 x.bl, .slice Dx ndx cdx, .int .i64 x.od, .int .i64 x.nw, .slice Nx nnx cnx] : List Value).toArray.all (·.oneCell') = true := by simp [Value.oneCell']
    rw [hwF0] at t2 t3
    have hw2 := H2.out.2.2.2.2.2
    have hRF : RdP B0 wF g (s1.1, z) := hR5.out t3 (by omega) (fun i _ e => by subst e; exact Nu.blk hr5 (by omega) wish_u8)
    have hMF : Mine wF w.heap.size 5 (.slice Dx ndx cdx) x.da := Mine.base (own_out hM5 t3 (fun i hi e => by have := (World.ownsRow.lt hM5 i hi).1; omega)) (by omega)
    have hNF : OwnI wF w.heap.size (.slice Nx nnx cnx) x.nx := own_base (own_out hN5 t3 (fun i hi e => by have := (World.ownsRow.lt hN5 i hi).1; omega)) (by omega)
    have hOF : Og g w wF := hO5.trans t3 (fun i hi e => by omega)
    have k0' : W5.cell? ⟨bx, 0, none⟩ = some (.int .i64 x.cl) := hk5.cell rfl
    have k1' : W5.cell? ⟨bx, 1, none⟩ = some (.int .i64 x.sp) := hk5.cell rfl
    have k2' : W5.cell? ⟨bx, 2, none⟩ = some (.int .i64 x.gr) := hk5.cell rfl
    have k3' : W5.cell? ⟨bx, 3, none⟩ = some (.int .i64 x.ep) := hk5.cell rfl
    have k4' : W5.cell? ⟨bx, 4, none⟩ = some (.int .i64 x.kd) := hk5.cell rfl
    have k5' : W5.cell? ⟨bx, 5, none⟩ = some (.int .i64 x.bl) := hk5.cell rfl
    have k6' : W5.cell? ⟨bx, 6, none⟩ = some (.slice Dx ndx cdx) := hk5.cell rfl
    have k7' : W5.cell? ⟨bx, 7, none⟩ = some (.int .i64 x.od) := hk5.cell rfl
    have k8' : W5.cell? ⟨bx, 8, none⟩ = some (.int .i64 x.nw) := hk5.cell rfl
    have k9' : W5.cell? ⟨bx, 9, none⟩ = some (.slice Nx nnx cnx) := hk5.cell rfl
    have HS := Lib.hid (And.intro t1 (And.intro t2 (And.intro hRF (And.intro hOF (And.intro hone (And.intro hwF (And.intro hMF (And.intro hNF (And.intro hAW.1.1 hAW.2.1.1.1)))))))))
    have HW := Lib.hid hW4
    have HW5 := Lib.hid hW5
    have Hbx := Lib.hid hbx
    clear hV hb3 hAW hM hN hb4 hk4 hW4 hbx hb24 hbxg hbr hrb hst hR5 hk5 hr5 hM5 hN5 hO5 hW5 t1 t2 t3 hwF hwF0 hone hRF hMF hNF hOF
    go_upto_region 5 with fail
    rw [HW.out, Hbx.out]
    go_upto_region 6 with fail
    rw [HW5.out]
    go_wp2_with (refine wpList_store_mid rfl 25 _ _ rfl w.heap.size 0 ([.int .i64 x.cl, .int .i64 x.sp, .int .i64 x.gr, .int .i64 x.ep, .int .i64 x.kd, .int .i64 x.bl, .slice Dx ndx cdx, .int .i64 x.od, .int .i64 x.nw, .slice Nx nnx cnx] : List Value).toArray rfl rfl HS.out.1 wish_size HS.out.2.2.2.2.1 ?_; simp only [Act.put]; refine cast (congrArg (fun z => wpList _ _ _ _ _ z) HS.out.2.2.2.2.2.1.symm) ?_)
    refine bodyPost_ret (results_row rfl _ _ w.heap.size 25 _ _ rfl HS.out.2.1 Tryz.underlying25 rfl wish_size) rfl ?_
    rw [Hr.out]
    exact ⟨_, rfl, ⟨Dx, ndx, cdx, Nx, nnx, cnx, rfl, ⟨HS.out.2.2.2.2.2.2.1, HS.out.2.2.2.2.2.2.2.2.1⟩, HS.out.2.2.2.2.2.2.2.1, HS.out.2.2.2.2.2.2.2.2.2⟩, HS.out.2.2.1, HS.out.2.2.2.1⟩

end Go.Proofs.YtihmddpafbackaaGreat

namespace Go.Proofs.YtihmddpafbackaaGreat

open Go.RowKit Go.Maps

set_option linter.unusedVariables false

set_option linter.unusedSimpArgs false

/-- What Unbatch answers. -/
def RetU (w : World) (r : List Wl × Nat) (e : Ending) (w' : World) : Prop := ∃ v ys, e = .returned (.tuple #[v, .int .i64 (r.2 : Int)]) ∧ OwnL w' w.heap.size v ys ∧ ys.map (·.x) = r.1 ∧ (∀ y ∈ ys, WNm y.x) ∧ Below w.heap.size w w'

theorem rp_nm (s : Rd) : WNm (rp s).1 := by
  by_cases h1 : (rt 256 s).2.2 ≠ 0
  · have e : rp s = (W0, (rt 256 s).2) := by unfold rp; rw [if_pos h1]
    rw [e]
    show WNm W0
    exact W0_nm
  · have e : rp s = ((parse (rt 256 s).1).1, ((rt 256 s).2.1, (parse (rt 256 s).1).2)) := by unfold rp; rw [if_neg h1]
    rw [e]
    dsimp only
    exact parse_nm (rt 256 s).1

theorem Nu.less {B0 B1 : Nat} {w : World} {i : Nat} (h : Nu B1 w i) (hb : B0 ≤ B1) : Nu B0 w i := ⟨Nat.le_trans hb h.1, h.2⟩

set_option maxRecDepth 100000 in
set_option maxHeartbeats 3200000 in
theorem unbatch_any (A : Option Addr) (n c : Nat) (l : List UInt8) (w : World) (hA : Bs w A l) (hn : l.length = n) (hnc : n ≤ c) (hc : c ≤ maxLen) (hl : n ≤ 140737488355328) : Calls Tryz.prog 26 #[.slice A n c] w (RetU w (unb l)) := by
  obtain ⟨m, s, hms⟩ : ∃ a b, rc 4 (l, 0) = (a, b) := ⟨_, _, (Prod.eta _).symm⟩
  have hm4 : m ≤ 4 := by have := rc_le 4 (l, 0); rw [hms] at this; exact this
  have hp : Hid (unb l = if ren (rps m s).2 ≠ 0 then ([], ren (rps m s).2) else ((rps m s).1, 0)) := by show _ = _; unfold unb; rw [hms]
  have hbr : Blk (w.alloc (.cells #[.slice A n c, .int .i64 0] 74)) w.heap.size 74 [.slice A n c, .int .i64 ((0 : Nat) : Int)] := Blk.new rfl rfl
  have hb1 : Below w.heap.size w (w.alloc (.cells #[.slice A n c, .int .i64 0] 74)) := (Below.refl _ _).alloc (Nat.le_refl _) _
  obtain ⟨W1, hW1⟩ : ∃ W, w.alloc (.cells #[.slice A n c, .int .i64 0] 74) = W := ⟨_, rfl⟩
  rw [hW1] at hbr hb1
  have hR1 : RdP w.heap.size W1 w.heap.size (l, 0) := ⟨Nat.le_refl _, A, n, c, hbr, hnc, hc, hl, fun _ => ⟨hn, (Bn.old hA (Nat.le_refl _)).bel hb1⟩⟩
  have H1 := Lib.hid (And.intro hR1 (And.intro hb1 (And.intro hms hbr.lt)))
  have HW := Lib.hid hW1
  clear hbr hb1 hW1 hR1 hA hn hms
  generalize unb l = r at *
  go_enter Tryz.func26, Tryz.ntmps26
  go_wp2_with fail
  rw [HW.out]
  have hc := count_rd w.heap.size w.heap.size 4 (l, 0) _ H1.out.1 (by omega)
  rw [H1.out.2.2.1] at hc
  refine hc.mono ?_
  clear hc
  rintro e w2 ⟨rfl, hR, hO⟩
  have H2 := Lib.hid (And.intro hR (And.intro hO (Nat.lt_of_lt_of_le H1.out.2.2.2 hO.size)))
  clear hR hO
  go_wp2
  go_loopw [5, 9] (fun v i wr => ∃ (k : Nat) (ys : List WH), k ≤ m ∧ i = .int .i64 k ∧ Hid (RdP w.heap.size wr w.heap.size (rps k s).2 ∧ OwnL wr w2.heap.size v ys ∧ ys.map (·.x) = (rps k s).1 ∧ (∀ y ∈ ys, WNm y.x) ∧ Og w.heap.size w2 wr)) (fun _ i _ => m - (intOf i).toNat)
  case atStart => exact ⟨0, [], Nat.zero_le _, rfl, H2.out.1, OwnL.nil _ _, rfl, fun y hy => by simp at hy, Out.refl _ _⟩
  case round =>
    obtain ⟨k, ys, hk, rfl, hI⟩ := hrel
    by_cases hlt : k < m
    · have hlt' : (k : Int) < m := by omega
      obtain ⟨L, q, hLq⟩ : ∃ a b, rps k s = (a, b) := ⟨_, _, rfl⟩
      obtain ⟨x, q', hxq⟩ : ∃ a b, rp q = (a, b) := ⟨_, _, (Prod.eta _).symm⟩
      have hxn : WNm x := by have := rp_nm q; rw [hxq] at this; exact this
      have hst : rps (k + 1) s = (L ++ [x], q') := by unfold rps; simp only [hLq, hxq]
      have hLl : L.length = k := by have := rps_len k s; rw [hLq] at this; exact this
      have hI2 := hI.out
      rw [hLq] at hI2
      have HI := Lib.hid (And.intro hI2 (And.intro hxq (And.intro hxn (And.intro hst hLl))))
      clear hI hI2 hxq hxn hst hLl hLq
      have hsz2 : w2.heap.size ≤ wr.heap.size := HI.out.1.2.2.2.2.size
      go_wp2_with fail
      have hc := packed_rd w.heap.size w.heap.size q _ HI.out.1.1
      rw [HI.out.2.1] at hc
      refine hc.mono ?_
      clear hc
      rintro e w3 ⟨vx, rfl, ⟨Dx, ndx, cdx, Nx, nnx, cnx, rfl, hW⟩, hR3, hO3⟩
      have hal : Below w3.heap.size w3 (w3.alloc (.cells #[.int .i64 x.cl, .int .i64 x.sp, .int .i64 x.gr, .int .i64 x.ep, .int .i64 x.kd, .int .i64 x.bl, .slice Dx ndx cdx, .int .i64 x.od, .int .i64 x.nw, .slice Nx nnx cnx] 25)) := (Below.refl _ _).alloc (Nat.le_refl _) _
      have hWo : WHo w3 wr.heap.size ⟨x, Dx, ndx, cdx, Nx, nnx, cnx⟩ := ⟨hW.1, hW.2⟩
      have hOw : OwnL w3 w2.heap.size u5 ys := HI.out.1.2.1.out hO3 (fun i e => by have := H2.out.2.2; omega)
      have H3 := Lib.hid (And.intro (hR3.bel hal) (And.intro (hOw.on hal) (And.intro ((hWo.on hal).base hsz2) (And.intro (hO3.then_below hal) (Nat.le_trans hsz2 (Nat.le_trans hO3.size hal.size))))))
      clear hW hR3 hO3 hal hWo hOw
      have hy4 : ys.length < 1256584717458 := by have h1 := HI.out.1.2.2.1; have h2 := congrArg List.length h1; simp only [List.length_map] at h2; have := HI.out.2.2.2.2; omega
      go_wp2_with (at_builtin; refine wp_appendW rfl _ _ rfl w2.heap.size _ ys rfl H3.out.2.1 _ ⟨x, Dx, ndx, cdx, Nx, nnx, cnx⟩ rfl (Blk.new rfl rfl) H3.out.2.2.1 hy4 H3.out.2.2.2.2 ?_; intro v4 w4 hO4 hS4)
      go_roundw
      case rel =>
        refine ⟨k + 1, ys ++ [⟨x, Dx, ndx, cdx, Nx, nnx, cnx⟩], by omega, by go_num, ?_⟩
        rw [HI.out.2.2.2.1]
        have hb02 : w.heap.size < w2.heap.size := H2.out.2.2
        refine ⟨H3.out.1.out hS4 (fun e => by have := e.1; omega) (fun i _ e => e.less (by omega)), hO4, ?_, ?_, ?_⟩
        · rw [List.map_append, HI.out.1.2.2.1]; rfl
        · intro y hy
          rcases List.mem_append.1 hy with h | h
          · exact HI.out.1.2.2.2.1 y h
          · rw [List.mem_singleton] at h; rw [h]; exact HI.out.2.2.1
        · exact (HI.out.1.2.2.2.2.trans H3.out.2.2.2.1 (fun _ _ e => e)).trans hS4 (fun i hi e => by have := e.1; omega)
      case measure => simp [intOf]; omega
    · have hlt' : ¬ (k : Int) < m := by omega
      have hkm : k = m := by omega
      subst hkm
      have HI := Lib.hid hI.out
      clear hI
      go_wp2_with fail
      refine (end_rd w.heap.size w.heap.size (rps k s).2 _ HI.out.1).mono ?_
      rintro e w5 ⟨rfl, ⟨A5, n5, c5, hb5⟩, hO5⟩
      obtain ⟨z, hz⟩ : ∃ z, ren (rps k s).2 = z := ⟨_, rfl⟩
      rw [hz] at hb5
      have k1 : w5.cell? ⟨w.heap.size, 1, none⟩ = some (.int .i64 (z : Int)) := hb5.cell rfl
      have hbF : Below w.heap.size w w5 := H1.out.2.1.trans (((H2.out.2.1.trans HI.out.2.2.2.2 (fun _ _ e => e)).trans hO5 (fun _ _ e => e)).above (B := w.heap.size) (fun i e => by omega) (by have := H1.out.2.2.2; omega))
      have hOw : OwnL w5 w.heap.size u5 ys := (HI.out.2.1.out hO5 (fun i e => by have := H2.out.2.2; omega)).base (by have := H2.out.2.2; omega)
      have H5 := Lib.hid (And.intro hbF (And.intro hOw hz))
      clear hb5 hO5 hbF hOw hz
      by_cases hz0 : z ≠ 0
      · have hzz : ((z : Int) != 0) = true := by simp [hz0]
        have Hr : Hid (r = ([], z)) := by show _ = _; rw [hp.out, H5.out.2.2, if_pos hz0]
        clear hz0
        have k1d : w5.drew.cell? ⟨w.heap.size, 1, none⟩ = some (.int .i64 (z : Int)) := k1
        go_wp2
        go_quiet (fail)
        go_wp2
        go_ret2
        rw [Hr.out]
        exact ⟨_, [], rfl, OwnL.nil _ _, rfl, fun y hy => by simp at hy, below_drewN H5.out.1 _⟩
      · have hzz : ((z : Int) != 0) = false := by simpa using hz0
        have Hr : Hid (r = ((rps k s).1, 0)) := by show _ = _; rw [hp.out, H5.out.2.2, if_neg hz0]
        clear hz0
        go_wp2
        go_ret2
        rw [Hr.out]
        exact ⟨_, ys, rfl, H5.out.2.1, HI.out.2.2.1, HI.out.2.2.2.1, H5.out.1⟩

end Go.Proofs.YtihmddpafbackaaGreat

namespace Go.Proofs.YtihmddpafbackaaGreat

open Go.RowKit

set_option linter.unusedVariables false

set_option maxRecDepth 100000 in
set_option maxHeartbeats 800000 in
theorem sequal_any (A A' : Option Addr) (n n' c c' : Nat) (l l' : List Int) (w : World) (h : ArgI w A n c l) (h' : ArgI w A' n' c' l') : Calls Tryz.prog 38 #[.slice A n c, .slice A' n' c'] w fun e w' => e = .returned (.bool (decide (l = l'))) ∧ Below w.heap.size w w' := by
  by_cases hnn : n = n'
  · subst hnn
    have hcm := h.2.2.1
    unfold maxLen at hcm
    have hnc := h.2.1
    have hcm' := h'.2.2.1
    unfold maxLen at hcm'
    have hnc' := h'.2.1
    have hl1 := h.1
    have hl2 := h'.1
    have hn63 : n ≤ 9223372036854775807 := by omega
    have H := Lib.hid (And.intro h h')
    clear h h'
    obtain ⟨r, hr⟩ : ∃ r, decide (l = l') = r := ⟨_, rfl⟩
    rw [hr]
    have Hr := Lib.hid hr
    clear hr
    go_enter Tryz.func38, Tryz.ntmps38
    go_wp2
    go_loopw [5, 13] (fun _ v wr => ∃ j : Nat, j ≤ n ∧ v = .int .i64 j ∧ l.take j = l'.take j ∧ Below w.heap.size w wr) (fun _ v _ => n - (intOf v).toNat)
    case atStart => exact ⟨0, Nat.zero_le _, rfl, rfl, Below.refl _ _⟩
    case round =>
      obtain ⟨j, hj, rfl, heq, hb⟩ := hrel
      have hi0 : (0 : Int) ≤ j := by omega
      by_cases hlt : j < n
      · have hi1 : (j : Int) < n := by omega
        have hjl : j < l.length := by omega
        have hjl' : j < l'.length := by omega
        obtain ⟨b1, o1, rfl, l1, q1⟩ := H.out.1.2.2.2.1.at_ hjl
        obtain ⟨b2, o2, rfl, l2, q2⟩ := H.out.2.2.2.2.1.at_ hjl'
        have c1 : wr.cell? ⟨b1, o1 + j, none⟩ = some (.int .i64 l[j]) := (hb.cell (p := ⟨b1, o1 + j, none⟩) l1).trans (q1 j hjl)
        have c2 : wr.cell? ⟨b2, o2 + j, none⟩ = some (.int .i64 l'[j]) := (hb.cell (p := ⟨b2, o2 + j, none⟩) l2).trans (q2 j hjl')
        have c1d : wr.drew.cell? ⟨b1, o1 + j, none⟩ = some (.int .i64 l[j]) := c1
        have c2d : wr.drew.cell? ⟨b2, o2 + j, none⟩ = some (.int .i64 l'[j]) := c2
        have hs1 := List.take_succ_eq_append_getElem hjl
        have hs2 := List.take_succ_eq_append_getElem hjl'
        have hno : l[j] ≠ l'[j] → r = false := fun hne => by
          rw [← Hr.out, decide_eq_false_iff_not]
          rintro rfl; exact hne rfl
        have Hs := Lib.hid (And.intro hs1 (And.intro hs2 (And.intro hno heq)))
        clear hs1 hs2 hno heq q1 q2
        generalize l[j] = x at *
        generalize l'[j] = y at *
        clear hjl hjl'
        have Hb := Lib.hid hb
        clear hb
        by_cases hxy : x = y
        · subst hxy
          have hne : (x != x) = false := by simp
          go_wp2
          go_quiet (fail)
          go_wp2
          go_roundw
          case rel => exact ⟨j + 1, by omega, by go_num, by rw [Hs.out.1, Hs.out.2.1, Hs.out.2.2.2], below_drewN Hb.out _⟩
          case measure => simp [intOf]; omega
        · have hne : (x != y) = true := by simp [hxy]
          have hrf := Hs.out.2.2.1 hxy
          subst hrf
          have Hxy := Lib.hid hxy
          clear hxy
          go_wp2
          go_quiet (fail)
          go_wp2
          go_ret
          exact ⟨rfl, below_drewN Hb.out _⟩
      · have hi1 : ¬ (j : Int) < n := by omega
        have hjn : j = n := by omega
        rw [List.take_of_length_le (by omega), List.take_of_length_le (by omega)] at heq
        have hrt : r = true := by rw [← Hr.out, heq]; simp
        subst hrt
        have Hb := Lib.hid hb
        clear hb heq
        go_wp2
        go_ret
        exact ⟨rfl, Hb.out⟩
  · have hl1 := h.1
    have hl2 := h'.1
    have hne : ((n : Int) != (n' : Int)) = true := by simp; omega
    have e : decide (l = l') = false := by
      rw [decide_eq_false_iff_not]
      rintro rfl; omega
    rw [e]
    clear e
    have H := Lib.hid (And.intro h h')
    clear h h'
    go_enter Tryz.func38, Tryz.ntmps38
    go_wp2
    go_ret
    exact ⟨rfl, Below.refl _ _⟩

end Go.Proofs.YtihmddpafbackaaGreat

namespace Go.Proofs.YtihmddpafbackaaGreat

open Go.RowKit

set_option linter.unusedVariables false

set_option linter.unusedSimpArgs false

def EqW (x y : Wl) : Prop := x.cl = y.cl ∧ x.sp = y.sp ∧ x.gr = y.gr ∧ x.ep = y.ep ∧ x.kd = y.kd ∧ x.bl = y.bl ∧ x.da = y.da ∧ x.od = y.od ∧ x.nw = y.nw ∧ x.nx = y.nx

instance decEqW (x y : Wl) : Decidable (EqW x y) := by unfold EqW; exact inferInstance

def sameB (x y : Wl) : Bool := decide (EqW x y)

theorem sameB_iff (x y : Wl) : sameB x y = true ↔ EqW x y := by unfold sameB; rw [decide_eq_true_eq]

theorem eqW_iff (x y : Wl) : EqW x y ↔ x = y := by
  constructor
  · rintro ⟨h1, h2, h3, h4, h5, h6, h7, h8, h9, h10⟩
    cases x; cases y
    simp only at h1 h2 h3 h4 h5 h6 h7 h8 h9 h10
    subst h1 h2 h3 h4 h5 h6 h7 h8 h9 h10
    rfl
  · rintro rfl
    exact ⟨rfl, rfl, rfl, rfl, rfl, rfl, rfl, rfl, rfl, rfl⟩

theorem sameB_self (x : Wl) : sameB x x = true := (sameB_iff x x).2 ((eqW_iff x x).2 rfl)

set_option maxRecDepth 100000 in
set_option maxHeartbeats 3200000 in
theorem same_any (x : Wl) (Dx : Option Addr) (ndx cdx : Nat) (Nx : Option Addr) (nnx cnx : Nat) (y : Wl) (Dy : Option Addr) (ndy cdy : Nat) (Ny : Option Addr) (nny cny : Nat) (w : World) (hx : ArgW w x Dx ndx cdx Nx nnx cnx) (hy : ArgW w y Dy ndy cdy Ny nny cny) : Calls Tryz.prog 19 #[.agg #[.int .i64 x.cl, .int .i64 x.sp, .int .i64 x.gr, .int .i64 x.ep, .int .i64 x.kd, .int .i64 x.bl, .slice Dx ndx cdx, .int .i64 x.od, .int .i64 x.nw, .slice Nx nnx cnx], .agg #[.int .i64 y.cl, .int .i64 y.sp, .int .i64 y.gr, .int .i64 y.ep, .int .i64 y.kd, .int .i64 y.bl, .slice Dy ndy cdy, .int .i64 y.od, .int .i64 y.nw, .slice Ny nny cny]] w fun e w' => e = .returned (.bool (sameB x y)) ∧ Below w.heap.size w w' := by
  obtain ⟨r, hr⟩ : ∃ r, sameB x y = r := ⟨_, rfl⟩
  rw [hr]
  have Hr : Hid (r = true ↔ EqW x y) := by show _ ↔ _; rw [← hr]; exact sameB_iff x y
  clear hr
  have hb0 : Below w.heap.size w ((w.alloc (.cells #[.int .i64 x.cl, .int .i64 x.sp, .int .i64 x.gr, .int .i64 x.ep, .int .i64 x.kd, .int .i64 x.bl, .slice Dx ndx cdx, .int .i64 x.od, .int .i64 x.nw, .slice Nx nnx cnx] 25)).alloc (.cells #[.int .i64 y.cl, .int .i64 y.sp, .int .i64 y.gr, .int .i64 y.ep, .int .i64 y.kd, .int .i64 y.bl, .slice Dy ndy cdy, .int .i64 y.od, .int .i64 y.nw, .slice Ny nny cny] 25)) := ((Below.refl _ _).alloc (Nat.le_refl _) _).alloc (by simp) _
  have hB1 : Blk ((w.alloc (.cells #[.int .i64 x.cl, .int .i64 x.sp, .int .i64 x.gr, .int .i64 x.ep, .int .i64 x.kd, .int .i64 x.bl, .slice Dx ndx cdx, .int .i64 x.od, .int .i64 x.nw, .slice Nx nnx cnx] 25)).alloc (.cells #[.int .i64 y.cl, .int .i64 y.sp, .int .i64 y.gr, .int .i64 y.ep, .int .i64 y.kd, .int .i64 y.bl, .slice Dy ndy cdy, .int .i64 y.od, .int .i64 y.nw, .slice Ny nny cny] 25)) w.heap.size 25 [.int .i64 x.cl, .int .i64 x.sp, .int .i64 x.gr, .int .i64 x.ep, .int .i64 x.kd, .int .i64 x.bl, .slice Dx ndx cdx, .int .i64 x.od, .int .i64 x.nw, .slice Nx nnx cnx] := (Blk.new (l := [.int .i64 x.cl, .int .i64 x.sp, .int .i64 x.gr, .int .i64 x.ep, .int .i64 x.kd, .int .i64 x.bl, .slice Dx ndx cdx, .int .i64 x.od, .int .i64 x.nw, .slice Nx nnx cnx]) rfl rfl).old _
  have hB2 : Blk ((w.alloc (.cells #[.int .i64 x.cl, .int .i64 x.sp, .int .i64 x.gr, .int .i64 x.ep, .int .i64 x.kd, .int .i64 x.bl, .slice Dx ndx cdx, .int .i64 x.od, .int .i64 x.nw, .slice Nx nnx cnx] 25)).alloc (.cells #[.int .i64 y.cl, .int .i64 y.sp, .int .i64 y.gr, .int .i64 y.ep, .int .i64 y.kd, .int .i64 y.bl, .slice Dy ndy cdy, .int .i64 y.od, .int .i64 y.nw, .slice Ny nny cny] 25)) (w.heap.size + 1) 25 [.int .i64 y.cl, .int .i64 y.sp, .int .i64 y.gr, .int .i64 y.ep, .int .i64 y.kd, .int .i64 y.bl, .slice Dy ndy cdy, .int .i64 y.od, .int .i64 y.nw, .slice Ny nny cny] := Blk.new rfl (by simp)
  have H := Lib.hid (And.intro (hx.after hb0) (And.intro (hy.after hb0) (And.intro hb0 (And.intro hB1 hB2))))
  clear hb0 hB1 hB2 hx hy
  by_cases h_kd : x.kd = y.kd
  rotate_left
  · have e_kd : (x.kd == y.kd) = false := by simpa using h_kd
    have hrr : Hid (r = false) := by show _ = _; rw [Bool.eq_false_iff]; intro h; exact h_kd (Hr.out.1 h).2.2.2.2.1
    clear h_kd
    go_enter Tryz.func19, Tryz.ntmps19
    go_wp2
    go_ret
    exact ⟨ret_bool hrr.out.symm, H.out.2.2.1⟩
  have e_kd : (x.kd == y.kd) = true := by simpa using h_kd
  have Gkd := Lib.hid h_kd
  clear h_kd
  by_cases h_cl : x.cl = y.cl
  rotate_left
  · have e_cl : (x.cl == y.cl) = false := by simpa using h_cl
    have hrr : Hid (r = false) := by show _ = _; rw [Bool.eq_false_iff]; intro h; exact h_cl (Hr.out.1 h).1
    clear h_cl
    go_enter Tryz.func19, Tryz.ntmps19
    go_wp2
    go_ret
    exact ⟨ret_bool hrr.out.symm, H.out.2.2.1⟩
  have e_cl : (x.cl == y.cl) = true := by simpa using h_cl
  have Gcl := Lib.hid h_cl
  clear h_cl
  by_cases h_sp : x.sp = y.sp
  rotate_left
  · have e_sp : (x.sp == y.sp) = false := by simpa using h_sp
    have hrr : Hid (r = false) := by show _ = _; rw [Bool.eq_false_iff]; intro h; exact h_sp (Hr.out.1 h).2.1
    clear h_sp
    go_enter Tryz.func19, Tryz.ntmps19
    go_wp2
    go_ret
    exact ⟨ret_bool hrr.out.symm, H.out.2.2.1⟩
  have e_sp : (x.sp == y.sp) = true := by simpa using h_sp
  have Gsp := Lib.hid h_sp
  clear h_sp
  by_cases h_gr : x.gr = y.gr
  rotate_left
  · have e_gr : (x.gr == y.gr) = false := by simpa using h_gr
    have hrr : Hid (r = false) := by show _ = _; rw [Bool.eq_false_iff]; intro h; exact h_gr (Hr.out.1 h).2.2.1
    clear h_gr
    go_enter Tryz.func19, Tryz.ntmps19
    go_wp2
    go_ret
    exact ⟨ret_bool hrr.out.symm, H.out.2.2.1⟩
  have e_gr : (x.gr == y.gr) = true := by simpa using h_gr
  have Ggr := Lib.hid h_gr
  clear h_gr
  by_cases h_ep : x.ep = y.ep
  rotate_left
  · have e_ep : (x.ep == y.ep) = false := by simpa using h_ep
    have hrr : Hid (r = false) := by show _ = _; rw [Bool.eq_false_iff]; intro h; exact h_ep (Hr.out.1 h).2.2.2.1
    clear h_ep
    go_enter Tryz.func19, Tryz.ntmps19
    go_wp2
    go_ret
    exact ⟨ret_bool hrr.out.symm, H.out.2.2.1⟩
  have e_ep : (x.ep == y.ep) = true := by simpa using h_ep
  have Gep := Lib.hid h_ep
  clear h_ep
  by_cases h_bl : x.bl = y.bl
  rotate_left
  · have e_bl : (x.bl == y.bl) = false := by simpa using h_bl
    have hrr : Hid (r = false) := by show _ = _; rw [Bool.eq_false_iff]; intro h; exact h_bl (Hr.out.1 h).2.2.2.2.2.1
    clear h_bl
    go_enter Tryz.func19, Tryz.ntmps19
    go_wp2
    go_ret
    exact ⟨ret_bool hrr.out.symm, H.out.2.2.1⟩
  have e_bl : (x.bl == y.bl) = true := by simpa using h_bl
  have Gbl := Lib.hid h_bl
  clear h_bl
  by_cases hd : x.da = y.da
  rotate_left
  · have Hd : Hid ((x.da == y.da) = false) := by show _ = _; simpa using hd
    have hrr : Hid (r = false) := by show _ = _; rw [Bool.eq_false_iff]; intro h; exact hd (Hr.out.1 h).2.2.2.2.2.2.1
    clear hd
    go_enter Tryz.func19, Tryz.ntmps19
    go_wp2_with (first | (go_at_call 37; refine (bequal_any _ _ _ _ _ _ x.da y.da _ H.out.1.1.2.2.2.1 H.out.2.1.1.2.2.2.1 H.out.1.1.1 H.out.2.1.1.1).mono ?_; rintro e w1 ⟨rfl, rfl⟩; rw [Hd.out]))
    go_ret
    exact ⟨ret_bool hrr.out.symm, H.out.2.2.1⟩
  have Hd : Hid ((x.da == y.da) = true) := by show _ = _; rw [hd]; simp
  have Gda := Lib.hid hd
  clear hd
  by_cases h_od : x.od = y.od
  rotate_left
  · have e_od : (x.od == y.od) = false := by simpa using h_od
    have hrr : Hid (r = false) := by show _ = _; rw [Bool.eq_false_iff]; intro h; exact h_od (Hr.out.1 h).2.2.2.2.2.2.2.1
    clear h_od
    go_enter Tryz.func19, Tryz.ntmps19
    go_wp2_with (first | (go_at_call 37; refine (bequal_any _ _ _ _ _ _ x.da y.da _ H.out.1.1.2.2.2.1 H.out.2.1.1.2.2.2.1 H.out.1.1.1 H.out.2.1.1.1).mono ?_; rintro e w1 ⟨rfl, rfl⟩; rw [Hd.out]))
    go_ret
    exact ⟨ret_bool hrr.out.symm, H.out.2.2.1⟩
  have e_od : (x.od == y.od) = true := by simpa using h_od
  have God := Lib.hid h_od
  clear h_od
  by_cases h_nw : x.nw = y.nw
  rotate_left
  · have e_nw : (x.nw == y.nw) = false := by simpa using h_nw
    have hrr : Hid (r = false) := by show _ = _; rw [Bool.eq_false_iff]; intro h; exact h_nw (Hr.out.1 h).2.2.2.2.2.2.2.2.1
    clear h_nw
    go_enter Tryz.func19, Tryz.ntmps19
    go_wp2_with (first | (go_at_call 37; refine (bequal_any _ _ _ _ _ _ x.da y.da _ H.out.1.1.2.2.2.1 H.out.2.1.1.2.2.2.1 H.out.1.1.1 H.out.2.1.1.1).mono ?_; rintro e w1 ⟨rfl, rfl⟩; rw [Hd.out]))
    go_ret
    exact ⟨ret_bool hrr.out.symm, H.out.2.2.1⟩
  have e_nw : (x.nw == y.nw) = true := by simpa using h_nw
  have Gnw := Lib.hid h_nw
  clear h_nw
  by_cases hs : x.nx = y.nx
  rotate_left
  · have Hs : Hid (decide (x.nx = y.nx) = false) := by show _ = _; simpa using hs
    have hrr : Hid (r = false) := by show _ = _; rw [Bool.eq_false_iff]; intro h; exact hs (Hr.out.1 h).2.2.2.2.2.2.2.2.2
    clear hs
    go_enter Tryz.func19, Tryz.ntmps19
    go_wp2_with (first | (go_at_call 37; refine (bequal_any _ _ _ _ _ _ x.da y.da _ H.out.1.1.2.2.2.1 H.out.2.1.1.2.2.2.1 H.out.1.1.1 H.out.2.1.1.1).mono ?_; rintro e w1 ⟨rfl, rfl⟩; rw [Hd.out]) | (go_at_call 38; refine (sequal_any _ _ _ _ _ _ x.nx y.nx _ H.out.1.2.1.1 H.out.2.1.2.1.1).mono ?_; rintro e w2 ⟨rfl, hb2⟩; rw [Hs.out]; have hb2 := Lib.hid hb2))
    go_ret
    exact ⟨ret_bool hrr.out.symm, (H.out.2.2.1.trans (hb2.out.mono H.out.2.2.1.size))⟩
  have Hs : Hid (decide (x.nx = y.nx) = true) := by show _ = _; simpa using hs
  have Gnx := Lib.hid hs
  clear hs
  have hrr : Hid (r = true) := Hr.out.2 ⟨Gcl.out, Gsp.out, Ggr.out, Gep.out, Gkd.out, Gbl.out, Gda.out, God.out, Gnw.out, Gnx.out⟩
  go_enter Tryz.func19, Tryz.ntmps19
  go_wp2_with (first | (go_at_call 37; refine (bequal_any _ _ _ _ _ _ x.da y.da _ H.out.1.1.2.2.2.1 H.out.2.1.1.2.2.2.1 H.out.1.1.1 H.out.2.1.1.1).mono ?_; rintro e w1 ⟨rfl, rfl⟩; rw [Hd.out]) | (go_at_call 38; refine (sequal_any _ _ _ _ _ _ x.nx y.nx _ H.out.1.2.1.1 H.out.2.1.2.1.1).mono ?_; rintro e w2 ⟨rfl, hb2⟩; rw [Hs.out]; have hb2 := Lib.hid hb2))
  go_ret
  exact ⟨ret_bool hrr.out.symm, (H.out.2.2.1.trans (hb2.out.mono H.out.2.2.1.size))⟩

end Go.Proofs.YtihmddpafbackaaGreat
