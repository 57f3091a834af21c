/-
  Laid together for a hand-in: Rk16, Ws16, Wl16, Lv16.
-/
import Derived.Test.YtfaeechidjpjbaaGreatZ11
import Derived.Test.YtfaeechidjpjbaaGreatZ12
import Derived.Maps.AppendAt
import Derived.Laws.EntriesVeiled

namespace Go.Proofs.YtfaeechidjpjbaaGreat
open Go.RowKit Go.Maps
set_option linter.unusedVariables false
set_option linter.unusedSimpArgs false

/-- The slice 'A' of n things, of k cells each, with room for 'cap', begins a block; its cells are 'cs'. -/
def RowK (w : World) (t : TypeId) (k : Nat) (A : Option Addr) (n cap : Nat) (cs : List Value) : Prop :=
  cs.length = n * k ∧ n ≤ cap ∧ cap ≤ maxLen ∧ ((A = none ∧ cap = 0) ∨ ∃ r cur, A = some ⟨r, 0, none⟩ ∧ Blk w r t cur ∧ cap * k ≤ cur.length ∧ cur.take (n * k) = cs)
def blkOf (A : Option Addr) (i : Nat) : Prop := ∃ a : Addr, A = some a ∧ a.block = i
section
variable {P : Program} {w w' : World} {t e : TypeId} {k size n cap m : Nat} {A : Option Addr} {xs cs : List Value}
theorem RowK.nil (w : World) (t : TypeId) (k : Nat) : RowK w t k none 0 0 [] := ⟨by simp, Nat.le_refl _, by simp [maxLen], .inl ⟨rfl, rfl⟩⟩
theorem RowK.out {S : Nat → Prop} (h : RowK w t k A n cap cs) (ho : Out S w w') (hS : ∀ i, blkOf A i → ¬ S i) : RowK w' t k A n cap cs := by
  obtain ⟨h1, h2, h3, h4 | ⟨r, cur, rfl, h5, h6⟩⟩ := h
  · exact ⟨h1, h2, h3, .inl h4⟩
  · exact ⟨h1, h2, h3, .inr ⟨r, cur, rfl, ho.blk h5 (hS r ⟨_, rfl, rfl⟩), h6⟩⟩
theorem RowK.lt (h : RowK w t k A n cap cs) : ∀ i, blkOf A i → i < w.heap.size := by
  rintro i ⟨a, rfl, rfl⟩
  obtain ⟨h1, h2, h3, ⟨h4, _⟩ | ⟨r, cur, h4, h5, h6⟩⟩ := h
  · cases h4
  · injection h4 with h4
    subst h4
    exact h5.lt
theorem RowK.below {B : Nat} (h : RowK w t k A n cap cs) (hb : Below B w w') (hB : ∀ i, blkOf A i → i < B) : RowK w' t k A n cap cs := by
  obtain ⟨h1, h2, h3, h4 | ⟨r, cur, rfl, h5, h6⟩⟩ := h
  · exact ⟨h1, h2, h3, .inl h4⟩
  · exact ⟨h1, h2, h3, .inr ⟨r, cur, rfl, h5.below hb (hB r ⟨_, rfl, rfl⟩), h6⟩⟩
theorem RowK.cells (h : RowK w t k A n cap cs) (hn : 0 < n) : ∃ r, A = some ⟨r, 0, none⟩ ∧ r < w.heap.size ∧ (∀ j u, cs[j]? = some u → w.cell? ⟨r, j, none⟩ = some u) ∧ (∀ j, w.frozen? ⟨r, j, none⟩ = false) := by
  obtain ⟨h1, h2, h3, ⟨_, h4⟩ | ⟨r, cur, h4, h5, h6, h7⟩⟩ := h
  · omega
  · refine ⟨r, h4, h5.lt, fun j u hu => h5.cell ?_, fun j => h5.free j⟩
    rw [← h7, List.getElem?_take] at hu
    split at hu
    · exact hu
    · cases hu
theorem RowK.holds (h : RowK w t k A n cap cs) : ∀ ad, A = some ad → ∀ j u, cs[j]? = some u → w.cell? (ad.add j) = some u := by
  rintro ad rfl j u hu
  obtain ⟨h1, h2, h3, ⟨h4, _⟩ | ⟨r, cur, h4, h5, h6, h7⟩⟩ := h
  · cases h4
  · injection h4 with h4
    subst h4
    rw [add_mk, Nat.zero_add]
    refine h5.cell ?_
    rw [← h7, List.getElem?_take] at hu
    split at hu
    · exact hu
    · cases hu

set_option maxRecDepth 100000 in
/-- append(v, x...): 'v' such a row, 'x' any cells. -/
theorem run_append_rowK (t ty e : TypeId) (i : TypeInfo) (z : Value) (size bytes : Nat) (ht : P.underlying t = some (.slice e)) (hi : P.info? e = some i) (hz : i.zero = some z)
    (hsize : i.size = size) (hby : i.bytes = bytes) (hzs : z.cells.size = size) (h : RowK w e size A n cap xs)
    (ad : Addr) (m c : Nat) (news : List Value) (hl : news.length = m * size) (hnews : ∀ j u, news[j]? = some u → w.cell? (ad.add j) = some u) (h1 : ∀ u ∈ news, u.oneCell' = true)
    (h63 : n + m ≤ maxLen) (hbytes : (n + m) * bytes ≤ 140737488355328) :
    ∃ A' cap' w', (Builtin.append_ #[t, t] ty #[.slice A n cap, .slice (some ad) m c]).run P w = .ok (.slice A' (n + m) cap') w' ∧ RowK w' e size A' (n + m) cap' (xs ++ news) ∧ Out (blkOf A) w w' ∧ (∀ b, blkOf A' b → blkOf A b ∨ b = w.heap.size) ∧ (n + m ≤ cap ∨ Below w.heap.size w w') := by
  subst hsize
  subst hby
  have hsmall : n + m ≤ 9223372036854775807 := by simp only [maxLen] at h63; omega
  have hlen : (xs ++ news).length = (n + m) * i.size := by rw [List.length_append, h.1, hl, Nat.add_mul]
  have grown : ∀ (old : Nat), old < n + m →
      RowK (w.drew.alloc (.cells (xs.toArray ++ news.toArray ++ Builtin.zeroCells z.cells (grownCap w (n + m) old e - (n + m))) e)) e i.size (some ⟨w.heap.size, 0, none⟩) (n + m) (grownCap w (n + m) old e) (xs ++ news) ∧
      Below w.heap.size w (w.drew.alloc (.cells (xs.toArray ++ news.toArray ++ Builtin.zeroCells z.cells (grownCap w (n + m) old e - (n + m))) e)) := by
    intro old ho
    have hge := grownCap_ge w (n + m) old e
    have hcm : grownCap w (n + m) old e ≤ maxLen := grownCap_le_maxLen w (n + m) old e h63
    refine ⟨⟨hlen, hge, hcm, .inr ⟨w.heap.size, (xs.toArray ++ news.toArray ++ Builtin.zeroCells z.cells (grownCap w (n + m) old e - (n + m))).toList, rfl, heap_alloc_new w.drew _, ?_, ?_⟩⟩, ((Below.refl _ _).drew).alloc (Nat.le_refl _) _⟩
    · simp only [Array.length_toList, Array.size_append, List.size_toArray, size_zeroCells, hzs, h.1, hl, ← Nat.add_mul]
      exact Nat.mul_le_mul_right _ (by omega)
    · simp only [Array.toList_append, List.append_assoc]
      rw [← List.append_assoc, ← hlen]
      exact List.take_left
  obtain ⟨hx, hnc, hcm, ⟨rfl, rfl⟩ | ⟨r, cur, rfl, hB, hcs, htake⟩⟩ := h
  · have hn0 : n = 0 := by omega
    subst hn0
    have hx0 : xs = [] := List.eq_nil_of_length_eq_zero (by simpa using hx)
    subst hx0
    by_cases hm : m = 0
    · subst hm
      have hn : news = [] := List.eq_nil_of_length_eq_zero (by simpa using hl)
      subst hn
      refine ⟨none, 0, w, ?_, RowK.nil w e i.size, Out.refl _ _, fun b h => .inl h, .inl (by omega)⟩
      simp [Builtin.append_, run_underlying ht, sizeOf, typeInfo, hi, Builtin.lenOf, Builtin.firstCells, loadCells, loadCellsFrom]
    · have hr := run_append_nil (P := P) w t ty e i z ht hi hz ad m c news hl hnews (by omega) (by omega) (by have hb := hbytes; simp only [Nat.zero_add] at hb; omega)
      have hgr := grown 0 (by omega)
      simp only [Nat.zero_add, List.nil_append, Array.empty_append] at hgr ⊢
      exact ⟨_, _, _, hr, hgr.1, Out.ofBelow _ hgr.2, fun b ⟨a, ha, hb⟩ => .inr (by injection ha with ha; subst ha; exact hb.symm), .inr hgr.2⟩
  · by_cases hroom : n + m ≤ cap
    · have hfit : n * i.size + news.length ≤ cur.toArray.size := by
        rw [hl, List.size_toArray, ← Nat.add_mul]; exact Nat.le_trans (Nat.mul_le_mul_right _ hroom) hcs
      have hr := run_append_room (P := P) w t ty e i ht hi r n cap cur.toArray hB ad m c news hl hnews h1 hroom hfit
      refine ⟨_, _, _, hr, ⟨hlen, hroom, hcm, .inr ⟨r, _, rfl, setRow_heap w r _ _ e _ hB, ?_, ?_⟩⟩, ⟨rfl, rfl, rfl, by simp, fun k hk hne => setRow_other w r k _ (fun e => hne ⟨_, rfl, e.symm⟩)⟩, fun b h => .inl h, .inl hroom⟩
      · simp only [List.length_append, List.length_take, List.length_drop]
        simp only [List.size_toArray] at hfit
        omega
      · rw [htake, ← hlen]
        exact List.take_left
    · have holds : ∀ j u, xs[j]? = some u → w.cell? ((⟨r, 0, none⟩ : Addr).add j) = some u := fun j u hu => by
        rw [add_mk, Nat.zero_add]
        refine hB.cell ?_
        rw [← htake, List.getElem?_take] at hu
        split at hu
        · exact hu
        · cases hu
      have hr := run_append_grow (P := P) w t ty e i z ht hi hz ⟨r, 0, none⟩ n cap xs hx holds ad m c news hl hnews (by omega) (by omega) (growslice_fits (by omega) hbytes)
      have hgr := grown cap (by omega)
      exact ⟨_, _, _, hr, hgr.1, Out.ofBelow _ hgr.2, fun b ⟨a, ha, hb⟩ => .inr (by injection ha with ha; subst ha; exact hb.symm), .inr hgr.2⟩
end
set_option maxRecDepth 100000 in
theorem int_info16 : (Tryz.prog.info? 3).map (fun i => (i.zero, i.size, i.bytes)) = some (some (.int .i64 0), 1, 8) := by kernel_rfl
set_option maxRecDepth 100000 in
theorem app3 {w : World} {b : Nat} {l m : List Int} (hl : l.length = 3) (hB : Blk w b 3 (cis l)) (hw : ∀ x ∈ l, Wf x) {A : Option Addr} {n c : Nat} (hA : ArgI w A n c m) (hn : n ≤ 1000) (ty : TypeId) :
    ∃ v' w', (Builtin.append_ #[41, 41] ty #[.slice (some ⟨b, 0, none⟩) 3 3, .slice A n c]).run Tryz.prog w = .ok v' w' ∧ IntV w' (l ++ m) v' ∧ Below w.heap.size w w' := by
  obtain ⟨i0, hi, hz0, hz1, hz2⟩ := info_parts int_info16
  have hR : RowK w 3 1 (some ⟨b, 0, none⟩) 3 3 (cis l) := ⟨by rw [cis_length, hl], Nat.le_refl _, by decide, .inr ⟨b, cis l, rfl, hB, by rw [cis_length, hl]; decide, List.take_of_length_le (by rw [cis_length, hl]; decide)⟩⟩
  obtain ⟨k1, k2, k3, k4, k5⟩ := hA
  rcases Nat.eq_zero_or_pos n with rfl | hp
  · have hm : m = [] := List.eq_nil_of_length_eq_zero k1
    subst hm
    refine ⟨.slice (some ⟨b, 0, none⟩) 3 3, w, ?_, ⟨_, _, _, rfl, ?_⟩, Below.refl _ _⟩
    · have ht := Tryz.underlying41
      cases A <;> simp [Builtin.append_, run_underlying ht, sizeOf, typeInfo, hi, Builtin.lenOf, Builtin.firstCells, storeCells, loadCells, loadCellsFrom]
    · rw [List.append_nil]
      refine ⟨hl, Nat.le_refl _, by decide, ⟨by rw [cis_length]; omega, fun _ => ⟨b, 0, rfl, hB.lt, fun j u hu => ?_⟩⟩, hw⟩
      rw [Nat.zero_add]; exact hB.cell hu
  · have hpos : 0 < m.length := by omega
    obtain ⟨x, off, rfl, hx, hc⟩ := k4.at_ hpos
    have hnews : ∀ j u, (cis m)[j]? = some u → w.cell? ((⟨x, off, none⟩ : Addr).add j) = some u := fun j u hu => by
      have hj : j < m.length := by
        have := (List.getElem?_eq_some_iff.1 hu).1
        rwa [cis_length] at this
      rw [add_mk, hc j hj, ← hu]
      simp [cis, hj]
      rfl
    have hones : ∀ u ∈ cis m, u.oneCell' = true := fun u hu => by
      unfold cis at hu
      obtain ⟨y, _, rfl⟩ := List.mem_map.1 hu
      rfl
    obtain ⟨A', cap', w', hrun, hR2, _, _, hbw⟩ := run_append_rowK (P := Tryz.prog) 41 ty 3 i0 _ 1 8 Tryz.underlying41 hi hz0 hz1 hz2 rfl hR ⟨x, off, none⟩ n c (cis m) (by rw [cis_length, k1, Nat.mul_one]) hnews hones (by unfold maxLen; omega) (by omega)
    · refine ⟨_, _, hrun, ⟨A', 3 + n, cap', rfl, by rw [List.length_append]; omega, hR2.2.1, hR2.2.2.1, ⟨by rw [cis_length]; omega, fun hp2 => ?_⟩, fun y hy => ?_⟩, ?_⟩
      · obtain ⟨r, e, hr, hcl, _⟩ := hR2.cells (by omega)
        refine ⟨r, 0, e, hr, fun j u hu => ?_⟩
        rw [Nat.zero_add]
        exact hcl j u (by rw [show cis l ++ cis m = cis (l ++ m) by simp [cis]]; exact hu)
      · rcases List.mem_append.1 hy with h | h
        · exact hw y h
        · exact k5 y h
      · rcases hbw with h | h
        · omega
        · exact h
end Go.Proofs.YtfaeechidjpjbaaGreat

namespace Go.Proofs.YtfaeechidjpjbaaGreat
open Go.RowKit
set_option linter.unusedVariables false
set_option linter.unusedSimpArgs false
def wzR (bv g base : Nat) (gr ep : Int) (A : Option Addr) (n c : Nat) (cs : List Value) (sea : List Int) : Nat → Value → World → Prop
  | 0 => fun v w => v = .pointer (some ⟨g, 0, none⟩)
  | 1 => fun v w => v = .pointer (some ⟨g, 0, none⟩)
  | 2 => fun v w => v = .pointer (some ⟨g, 1, none⟩)
  | 3 => fun v w => v = .int .i64 gr
  | 4 => fun v w => v = .pointer (some ⟨g, 0, none⟩)
  | 5 => fun v w => v = .pointer (some ⟨g, 0, none⟩)
  | 6 => fun v w => v = .pointer (some ⟨g, 2, none⟩)
  | 7 => fun v w => v = .int .i64 ep
  | 8 => fun v w => v = .pointer (some ⟨g, 0, none⟩)
  | 9 => fun v w => v = .pointer (some ⟨g, 0, none⟩)
  | 10 => fun v w => v = .pointer (some ⟨g, 139, none⟩)
  | 11 => fun v w => v = .slice A n c
  | 12 => fun v w => v = .int .i64 n
  | 13 => fun v w => Row3 w [gr, ep, (n : Int)] v
  | 14 => fun v w => v = .pointer (some ⟨g, 0, none⟩)
  | 15 => fun v w => v = .pointer (some ⟨g, 0, none⟩)
  | 16 => fun v w => v = .pointer (some ⟨g, 139, none⟩)
  | 17 => fun v w => v = .slice A n c
  | 18 => fun v w => IntV w ([gr, ep, (n : Int)] ++ sea) v
  | 19 => fun v w => OwnB w base (ibs ([gr, ep, (n : Int)] ++ sea)) v
  | 20 => fun v w => OwnB w base (ibs ([gr, ep, (n : Int)] ++ sea)) v
  | _ => fun _ _ => True
def wzD (i : Nat) : Nat := ([2, 3, 4, 5, 6, 7, 8, 9, 10, 11, 12, 13, 14, 15, 16, 17, 18, 19, 20, 21, 1] : List Nat).getD i 0
def wzG : Nat → Option Bool
  | _ => none
def wzS (i : Nat) : Bool := ([] : List Nat).contains i
theorem wz_gb (bv g base : Nat) (gr ep : Int) (A : Option Addr) (n c : Nat) (cs : List Value) (sea : List Int) : ∀ i b v w, wzG i = some b → wzR bv g base gr ep A n c cs sea i v w → v = .bool b := by
  intro i b v w h hR
  unfold wzG at h
  split at h
  all_goals first | (injection h with h; subst h; exact hR) | cases h
theorem wz_sk (bv g base : Nat) (gr ep : Int) (A : Option Addr) (n c : Nat) (cs : List Value) (sea : List Int) : ∀ i w, wzS i = true → wzR bv g base gr ep A n c cs sea i undef w := by
  intro i w h
  simp [wzS] at h
theorem wz_on (bv g base : Nat) (gr ep : Int) (A : Option Addr) (n c : Nat) (cs : List Value) (sea : List Int) : ∀ i v w w', wzR bv g base gr ep A n c cs sea i v w → Below w.heap.size w w' → wzR bv g base gr ep A n c cs sea i v w'
  | 0, v, w, w', h, _ => h
  | 1, v, w, w', h, _ => h
  | 2, v, w, w', h, _ => h
  | 3, v, w, w', h, _ => h
  | 4, v, w, w', h, _ => h
  | 5, v, w, w', h, _ => h
  | 6, v, w, w', h, _ => h
  | 7, v, w, w', h, _ => h
  | 8, v, w, w', h, _ => h
  | 9, v, w, w', h, _ => h
  | 10, v, w, w', h, _ => h
  | 11, v, w, w', h, _ => h
  | 12, v, w, w', h, _ => h
  | 13, v, w, w', h, hb => Row3.below h hb
  | 14, v, w, w', h, _ => h
  | 15, v, w, w', h, _ => h
  | 16, v, w, w', h, _ => h
  | 17, v, w, w', h, _ => h
  | 18, v, w, w', h, hb => IntV.below h hb
  | 19, v, w, w', h, hb => OwnB.below h hb
  | 20, v, w, w', h, hb => OwnB.below h hb
  | i + 21, v, w, w', h, hb => trivial
def wzOps : List Op := [.load 25 (.tmp 0),
  .nilCheck (.tmp 2),
  .fieldAddr 83 (.tmp 3) 1,
  .load 3 (.tmp 4),
  .load 25 (.tmp 0),
  .nilCheck (.tmp 6),
  .fieldAddr 83 (.tmp 7) 2,
  .load 3 (.tmp 8),
  .load 25 (.tmp 0),
  .nilCheck (.tmp 10),
  .fieldAddr 83 (.tmp 11) 5,
  .load 41 (.tmp 12),
  .call { callee := .builtin .len, args := #[.tmp 13], argTypes := #[41] },
  .buildSlice 41 3 #[(0, .tmp 5), (1, .tmp 9), (2, .tmp 14)],
  .load 25 (.tmp 0),
  .nilCheck (.tmp 16),
  .fieldAddr 83 (.tmp 17) 5,
  .load 41 (.tmp 18),
  .call { callee := .builtin .append, args := #[.tmp 15, .tmp 19], argTypes := #[41, 41] },
  .call { callee := .value (.func 89), args := #[.tmp 20], argTypes := #[41] },
  .assign (.tmp 21)]
def wzNeeds : Nat → List Nat
  | 0 => []
  | 1 => [0]
  | 2 => [1]
  | 3 => [2]
  | 4 => []
  | 5 => [4]
  | 6 => [5]
  | 7 => [6]
  | 8 => []
  | 9 => [8]
  | 10 => [9]
  | 11 => [10]
  | 12 => [11]
  | 13 => [3, 7, 12]
  | 14 => []
  | 15 => [14]
  | 16 => [15]
  | 17 => [16]
  | 18 => [13, 17]
  | 19 => [18]
  | 20 => [19]
  | _ => []
set_option maxRecDepth 100000 in
set_option maxHeartbeats 3200000 in
theorem wz_step {ops : Array Oper} {Q : Exit → Act → World → Prop} {a0 : Act} {w0 : World} (bv g base : Nat) (gr ep : Int) (A : Option Addr) (n c : Nat) (cs : List Value) (sea : List Int) (hops : ((List.range 21).map fun i => (ops[i]?).map Oper.op) = wzOps.map some)
    (hnd : ((List.range 21).all fun i => (wzNeeds i).all fun j => ((ops[i]?).map fun o => o.after.any fun e => Region.binds .any e && (e.on == j)).getD false) = true)
    (x0 : a0.tmps[0]? = some (.pointer (some ⟨bv, 0, none⟩))) (hV : Blk w0 bv 25 [.pointer (some ⟨g, 0, none⟩)]) (hG : Blk w0 g 83 cs) (hc1 : cs[1]? = some (.int .i64 gr)) (hc2 : cs[2]? = some (.int .i64 ep)) (hc9 : cs[139]? = some (.slice A n c))
    (hA : ArgI w0 A n c sea) (hn : n ≤ 900) (hwf : ∀ x ∈ [gr, ep, (n : Int)], Wf x) (hbase0 : base ≤ w0.heap.size) :
    ∀ i o, i < 21 → wzS i = false → ops[i]? = some o → o.dst = some (wzD i) → ∀ a w, Base wzD 21 a0 a → Below w0.heap.size w0 w → Region.wanted o (yielded ops a.tmps) = true →
      (∀ j, (o.after.any fun e => Region.binds .any e && (e.on == j)) = true → Has wzD (wzR bv g base gr ep A n c cs sea) j a w) →
      ∀ K : Act → World → Prop, (∀ v w', wzR bv g base gr ep A n c cs sea i v w' → Below w.heap.size w w' → K (a.put o.dst v) w') → wpOp Tryz.prog ops Q i K a w := by
  intro i o hi hs ho hds a w hbase hbl hwt hdep0 K hK
  have hop : some o.op = wzOps[i]? := by
    have h1 : ((List.range 21).map fun i => (ops[i]?).map Oper.op)[i]? = some (some o.op) := by
      rw [List.getElem?_map, List.getElem?_range hi]; simp only [Option.map_some, ho]
    rw [hops, List.getElem?_map] at h1
    cases h2 : wzOps[i]? with
    | none => rw [h2] at h1; cases h1
    | some y => rw [h2] at h1; simp only [Option.map_some, Option.some.injEq] at h1; rw [h1]
  have hdep : ∀ j, j ∈ wzNeeds i → Has wzD (wzR bv g base gr ep A n c cs sea) j a w := fun j hj => by
    have h1 := List.all_eq_true.1 (List.all_eq_true.1 hnd i (List.mem_range.2 hi)) j hj
    rw [ho] at h1
    exact hdep0 j h1
  clear hdep0 hops hnd
  match i, hi, hs, ho, hop, hds, hdep, hK with
  | 0, _, hs, ho, hop, hds, hdep, hK =>
    have hop : o.op = .load 25 (.tmp 0) := Option.some.inj hop
    have hu0 : a.tmps[0]? = some (.pointer (some ⟨bv, 0, none⟩)) := (hbase.2.2 0 (by decide)).trans x0
    have e0 : a.eval (.tmp 0) = _ := ev_tmp hu0
    refine st3 ho hwt (v := .pointer (some ⟨g, 0, none⟩)) (w' := w) ?_ (hK _ w rfl (Below.refl _ _))
    have k0 : w.cell? ⟨bv, 0, none⟩ = some (.pointer (some ⟨g, 0, none⟩)) := (hV.below hbl hV.lt).cell rfl
    unfold execOp
    simp only [hop, Option.map_some, Option.map_none, e0]
    first | rfl | (go_simp; done) | (go_simp; simp; done) | (go_simp; intro h; omega)
  | 1, _, hs, ho, hop, hds, hdep, hK =>
    have hop : o.op = .nilCheck (.tmp 2) := Option.some.inj hop
    obtain ⟨u2, hu2, hv2⟩ := hdep 0 (by decide)
    have hv2' : u2 = .pointer (some ⟨g, 0, none⟩) := hv2
    subst hv2'
    have e2 : a.eval (.tmp 2) = _ := ev_tmp hu2
    refine st3 ho hwt (v := .pointer (some ⟨g, 0, none⟩)) (w' := w) ?_ (hK _ w rfl (Below.refl _ _))
    unfold execOp
    simp only [hop, Option.map_some, Option.map_none, e2]
    first | rfl | (go_simp; done) | (go_simp; simp; done) | (go_simp; intro h; omega)
  | 2, _, hs, ho, hop, hds, hdep, hK =>
    have hop : o.op = .fieldAddr 83 (.tmp 3) 1 := Option.some.inj hop
    obtain ⟨u3, hu3, hv3⟩ := hdep 1 (by decide)
    have hv3' : u3 = .pointer (some ⟨g, 0, none⟩) := hv3
    subst hv3'
    have e3 : a.eval (.tmp 3) = _ := ev_tmp hu3
    refine st3 ho hwt (v := .pointer (some ⟨g, 1, none⟩)) (w' := w) ?_ (hK _ w rfl (Below.refl _ _))
    unfold execOp
    simp only [hop, Option.map_some, Option.map_none, e3]
    first | rfl | (go_simp; done) | (go_simp; simp; done) | (go_simp; intro h; omega)
  | 3, _, hs, ho, hop, hds, hdep, hK =>
    have hop : o.op = .load 3 (.tmp 4) := Option.some.inj hop
    obtain ⟨u4, hu4, hv4⟩ := hdep 2 (by decide)
    have hv4' : u4 = .pointer (some ⟨g, 1, none⟩) := hv4
    subst hv4'
    have e4 : a.eval (.tmp 4) = _ := ev_tmp hu4
    refine st3 ho hwt (v := .int .i64 gr) (w' := w) ?_ (hK _ w rfl (Below.refl _ _))
    have k1 : w.cell? ⟨g, 1, none⟩ = some (.int .i64 gr) := (hG.below hbl hG.lt).cell hc1
    unfold execOp
    simp only [hop, Option.map_some, Option.map_none, e4]
    first | rfl | (go_simp; done) | (go_simp; simp; done) | (go_simp; intro h; omega)
  | 4, _, hs, ho, hop, hds, hdep, hK =>
    have hop : o.op = .load 25 (.tmp 0) := Option.some.inj hop
    have hu0 : a.tmps[0]? = some (.pointer (some ⟨bv, 0, none⟩)) := (hbase.2.2 0 (by decide)).trans x0
    have e0 : a.eval (.tmp 0) = _ := ev_tmp hu0
    refine st3 ho hwt (v := .pointer (some ⟨g, 0, none⟩)) (w' := w) ?_ (hK _ w rfl (Below.refl _ _))
    have k0 : w.cell? ⟨bv, 0, none⟩ = some (.pointer (some ⟨g, 0, none⟩)) := (hV.below hbl hV.lt).cell rfl
    unfold execOp
    simp only [hop, Option.map_some, Option.map_none, e0]
    first | rfl | (go_simp; done) | (go_simp; simp; done) | (go_simp; intro h; omega)
  | 5, _, hs, ho, hop, hds, hdep, hK =>
    have hop : o.op = .nilCheck (.tmp 6) := Option.some.inj hop
    obtain ⟨u6, hu6, hv6⟩ := hdep 4 (by decide)
    have hv6' : u6 = .pointer (some ⟨g, 0, none⟩) := hv6
    subst hv6'
    have e6 : a.eval (.tmp 6) = _ := ev_tmp hu6
    refine st3 ho hwt (v := .pointer (some ⟨g, 0, none⟩)) (w' := w) ?_ (hK _ w rfl (Below.refl _ _))
    unfold execOp
    simp only [hop, Option.map_some, Option.map_none, e6]
    first | rfl | (go_simp; done) | (go_simp; simp; done) | (go_simp; intro h; omega)
  | 6, _, hs, ho, hop, hds, hdep, hK =>
    have hop : o.op = .fieldAddr 83 (.tmp 7) 2 := Option.some.inj hop
    obtain ⟨u7, hu7, hv7⟩ := hdep 5 (by decide)
    have hv7' : u7 = .pointer (some ⟨g, 0, none⟩) := hv7
    subst hv7'
    have e7 : a.eval (.tmp 7) = _ := ev_tmp hu7
    refine st3 ho hwt (v := .pointer (some ⟨g, 2, none⟩)) (w' := w) ?_ (hK _ w rfl (Below.refl _ _))
    unfold execOp
    simp only [hop, Option.map_some, Option.map_none, e7]
    first | rfl | (go_simp; done) | (go_simp; simp; done) | (go_simp; intro h; omega)
  | 7, _, hs, ho, hop, hds, hdep, hK =>
    have hop : o.op = .load 3 (.tmp 8) := Option.some.inj hop
    obtain ⟨u8, hu8, hv8⟩ := hdep 6 (by decide)
    have hv8' : u8 = .pointer (some ⟨g, 2, none⟩) := hv8
    subst hv8'
    have e8 : a.eval (.tmp 8) = _ := ev_tmp hu8
    refine st3 ho hwt (v := .int .i64 ep) (w' := w) ?_ (hK _ w rfl (Below.refl _ _))
    have k2 : w.cell? ⟨g, 2, none⟩ = some (.int .i64 ep) := (hG.below hbl hG.lt).cell hc2
    unfold execOp
    simp only [hop, Option.map_some, Option.map_none, e8]
    first | rfl | (go_simp; done) | (go_simp; simp; done) | (go_simp; intro h; omega)
  | 8, _, hs, ho, hop, hds, hdep, hK =>
    have hop : o.op = .load 25 (.tmp 0) := Option.some.inj hop
    have hu0 : a.tmps[0]? = some (.pointer (some ⟨bv, 0, none⟩)) := (hbase.2.2 0 (by decide)).trans x0
    have e0 : a.eval (.tmp 0) = _ := ev_tmp hu0
    refine st3 ho hwt (v := .pointer (some ⟨g, 0, none⟩)) (w' := w) ?_ (hK _ w rfl (Below.refl _ _))
    have k0 : w.cell? ⟨bv, 0, none⟩ = some (.pointer (some ⟨g, 0, none⟩)) := (hV.below hbl hV.lt).cell rfl
    unfold execOp
    simp only [hop, Option.map_some, Option.map_none, e0]
    first | rfl | (go_simp; done) | (go_simp; simp; done) | (go_simp; intro h; omega)
  | 9, _, hs, ho, hop, hds, hdep, hK =>
    have hop : o.op = .nilCheck (.tmp 10) := Option.some.inj hop
    obtain ⟨u10, hu10, hv10⟩ := hdep 8 (by decide)
    have hv10' : u10 = .pointer (some ⟨g, 0, none⟩) := hv10
    subst hv10'
    have e10 : a.eval (.tmp 10) = _ := ev_tmp hu10
    refine st3 ho hwt (v := .pointer (some ⟨g, 0, none⟩)) (w' := w) ?_ (hK _ w rfl (Below.refl _ _))
    unfold execOp
    simp only [hop, Option.map_some, Option.map_none, e10]
    first | rfl | (go_simp; done) | (go_simp; simp; done) | (go_simp; intro h; omega)
  | 10, _, hs, ho, hop, hds, hdep, hK =>
    have hop : o.op = .fieldAddr 83 (.tmp 11) 5 := Option.some.inj hop
    obtain ⟨u11, hu11, hv11⟩ := hdep 9 (by decide)
    have hv11' : u11 = .pointer (some ⟨g, 0, none⟩) := hv11
    subst hv11'
    have e11 : a.eval (.tmp 11) = _ := ev_tmp hu11
    refine st3 ho hwt (v := .pointer (some ⟨g, 139, none⟩)) (w' := w) ?_ (hK _ w rfl (Below.refl _ _))
    unfold execOp
    simp only [hop, Option.map_some, Option.map_none, e11]
    first | rfl | (go_simp; done) | (go_simp; simp; done) | (go_simp; intro h; omega)
  | 11, _, hs, ho, hop, hds, hdep, hK =>
    have hop : o.op = .load 41 (.tmp 12) := Option.some.inj hop
    obtain ⟨u12, hu12, hv12⟩ := hdep 10 (by decide)
    have hv12' : u12 = .pointer (some ⟨g, 139, none⟩) := hv12
    subst hv12'
    have e12 : a.eval (.tmp 12) = _ := ev_tmp hu12
    refine st3 ho hwt (v := .slice A n c) (w' := w) ?_ (hK _ w rfl (Below.refl _ _))
    have k139 : w.cell? ⟨g, 139, none⟩ = some (.slice A n c) := (hG.below hbl hG.lt).cell hc9
    unfold execOp
    simp only [hop, Option.map_some, Option.map_none, e12]
    first | rfl | (go_simp; done) | (go_simp; simp; done) | (go_simp; intro h; omega)
  | 12, _, hs, ho, hop, hds, hdep, hK =>
    have hop : o.op = .call { callee := .builtin .len, args := #[.tmp 13], argTypes := #[41] } := Option.some.inj hop
    obtain ⟨u13, hu13, hv13⟩ := hdep 11 (by decide)
    have hv13' : u13 = .slice A n c := hv13
    subst hv13'
    have e13 : a.eval (.tmp 13) = _ := ev_tmp hu13
    refine st3 ho hwt (v := .int .i64 n) (w' := w) ?_ (hK _ w rfl (Below.refl _ _))
    unfold execOp
    simp only [hop, resolve, invoke, builtin, Sem.run_bind, Sem.run_pure, Result.andThen_ok, List.map_toArray, List.map_cons, List.map_nil, e13]
    first | rfl | (go_simp; done) | (go_simp; simp; done) | (go_simp; intro h; omega)
  | 13, _, hs, ho, hop, hds, hdep, hK =>
    have hop : o.op = .buildSlice 41 3 #[(0, .tmp 5), (1, .tmp 9), (2, .tmp 14)] := Option.some.inj hop
    obtain ⟨u5, hu5, hv5⟩ := hdep 3 (by decide)
    have hv5' : u5 = .int .i64 gr := hv5
    subst hv5'
    have e5 : a.eval (.tmp 5) = _ := ev_tmp hu5
    obtain ⟨u9, hu9, hv9⟩ := hdep 7 (by decide)
    have hv9' : u9 = .int .i64 ep := hv9
    subst hv9'
    have e9 : a.eval (.tmp 9) = _ := ev_tmp hu9
    obtain ⟨u14, hu14, hv14⟩ := hdep 12 (by decide)
    have hv14' : u14 = .int .i64 n := hv14
    subst hv14'
    have e14 : a.eval (.tmp 14) = _ := ev_tmp hu14
    have hrun : (Instr.buildSlice 41 3 #[(0, Value.int .i64 gr), (1, Value.int .i64 ep), (2, Value.int .i64 n)]).run Tryz.prog w = .ok (.slice (some ⟨w.heap.size, 0, none⟩) 3 3) (w.alloc (.cells (cis [gr, ep, (n : Int)]).toArray 3)) := by kernel_rfl
    refine st3 ho hwt (v := .slice (some ⟨w.heap.size, 0, none⟩) 3 3) (w' := w.alloc (.cells (cis [gr, ep, (n : Int)]).toArray 3)) ?_ (hK _ _ ⟨_, rfl, Blk.new (l := cis [gr, ep, (n : Int)]) rfl rfl⟩ ((Below.refl _ _).alloc (Nat.le_refl _) _))
    unfold execOp
    simp only [hop, List.map_toArray, List.map_cons, List.map_nil, e5, e9, e14, Sem.run_bind, hrun, Result.andThen_ok]
    rfl
  | 14, _, hs, ho, hop, hds, hdep, hK =>
    have hop : o.op = .load 25 (.tmp 0) := Option.some.inj hop
    have hu0 : a.tmps[0]? = some (.pointer (some ⟨bv, 0, none⟩)) := (hbase.2.2 0 (by decide)).trans x0
    have e0 : a.eval (.tmp 0) = _ := ev_tmp hu0
    refine st3 ho hwt (v := .pointer (some ⟨g, 0, none⟩)) (w' := w) ?_ (hK _ w rfl (Below.refl _ _))
    have k0 : w.cell? ⟨bv, 0, none⟩ = some (.pointer (some ⟨g, 0, none⟩)) := (hV.below hbl hV.lt).cell rfl
    unfold execOp
    simp only [hop, Option.map_some, Option.map_none, e0]
    first | rfl | (go_simp; done) | (go_simp; simp; done) | (go_simp; intro h; omega)
  | 15, _, hs, ho, hop, hds, hdep, hK =>
    have hop : o.op = .nilCheck (.tmp 16) := Option.some.inj hop
    obtain ⟨u16, hu16, hv16⟩ := hdep 14 (by decide)
    have hv16' : u16 = .pointer (some ⟨g, 0, none⟩) := hv16
    subst hv16'
    have e16 : a.eval (.tmp 16) = _ := ev_tmp hu16
    refine st3 ho hwt (v := .pointer (some ⟨g, 0, none⟩)) (w' := w) ?_ (hK _ w rfl (Below.refl _ _))
    unfold execOp
    simp only [hop, Option.map_some, Option.map_none, e16]
    first | rfl | (go_simp; done) | (go_simp; simp; done) | (go_simp; intro h; omega)
  | 16, _, hs, ho, hop, hds, hdep, hK =>
    have hop : o.op = .fieldAddr 83 (.tmp 17) 5 := Option.some.inj hop
    obtain ⟨u17, hu17, hv17⟩ := hdep 15 (by decide)
    have hv17' : u17 = .pointer (some ⟨g, 0, none⟩) := hv17
    subst hv17'
    have e17 : a.eval (.tmp 17) = _ := ev_tmp hu17
    refine st3 ho hwt (v := .pointer (some ⟨g, 139, none⟩)) (w' := w) ?_ (hK _ w rfl (Below.refl _ _))
    unfold execOp
    simp only [hop, Option.map_some, Option.map_none, e17]
    first | rfl | (go_simp; done) | (go_simp; simp; done) | (go_simp; intro h; omega)
  | 17, _, hs, ho, hop, hds, hdep, hK =>
    have hop : o.op = .load 41 (.tmp 18) := Option.some.inj hop
    obtain ⟨u18, hu18, hv18⟩ := hdep 16 (by decide)
    have hv18' : u18 = .pointer (some ⟨g, 139, none⟩) := hv18
    subst hv18'
    have e18 : a.eval (.tmp 18) = _ := ev_tmp hu18
    refine st3 ho hwt (v := .slice A n c) (w' := w) ?_ (hK _ w rfl (Below.refl _ _))
    have k139 : w.cell? ⟨g, 139, none⟩ = some (.slice A n c) := (hG.below hbl hG.lt).cell hc9
    unfold execOp
    simp only [hop, Option.map_some, Option.map_none, e18]
    first | rfl | (go_simp; done) | (go_simp; simp; done) | (go_simp; intro h; omega)
  | 18, _, hs, ho, hop, hds, hdep, hK =>
    have hop : o.op = .call { callee := .builtin .append, args := #[.tmp 15, .tmp 19], argTypes := #[41, 41] } := Option.some.inj hop
    obtain ⟨u15, hu15, hv15⟩ := hdep 13 (by decide)
    have hv15' : Row3 w [gr, ep, (n : Int)] u15 := hv15
    have e15 : a.eval (.tmp 15) = _ := ev_tmp hu15
    obtain ⟨u19, hu19, hv19⟩ := hdep 17 (by decide)
    have hv19' : u19 = .slice A n c := hv19
    subst hv19'
    have e19 : a.eval (.tmp 19) = _ := ev_tmp hu19
    obtain ⟨b15, rfl, h15⟩ := hv15'
    obtain ⟨v', w', hrun, hI, hbw⟩ := app3 (w := w) rfl h15 hwf (hA.after hbl) (by omega) o.type
    refine st3 ho hwt (v := v') (w' := w') ?_ (hK _ _ hI hbw)
    unfold execOp
    simp only [hop, resolve, invoke, builtin, Sem.run_bind, Sem.run_pure, Result.andThen_ok, List.map_toArray, List.map_cons, List.map_nil, e15, e19, hrun]
  | 19, _, hs, ho, hop, hds, hdep, hK =>
    have hop : o.op = .call { callee := .value (.func 89), args := #[.tmp 20], argTypes := #[41] } := Option.some.inj hop
    obtain ⟨u20, hu20, hv20⟩ := hdep 18 (by decide)
    have hv20' : IntV w ([gr, ep, (n : Int)] ++ sea) u20 := hv20
    have e20 : a.eval (.tmp 20) = _ := ev_tmp hu20
    obtain ⟨A20, n20, c20, rfl, h20⟩ := hv20'
    refine st3_call ho hwt (f := 89) (vals := #[.slice A20 n20 c20]) (Z := fun v w' => OwnB w' base (ibs ([gr, ep, (n : Int)] ++ sea)) v ∧ Below w.heap.size w w') ?_ ?_ ?_
    · unfold execOp
      simp only [hop, e20, resolve, invoke, Sem.run_bind, Sem.run_pure, Result.andThen_ok, List.map_toArray, List.map_cons, List.map_nil]
      first | rfl | exact enters_of Tryz.func89 (by kernel_rfl) rfl _ _
    · exact (numbers_any _ _ _ _ w h20 (by have h1 := h20.1; have h2 := hA.1; rw [List.length_append] at h1; simp at h1; omega)).mono fun e w' ⟨v, he, hN⟩ => ⟨v, he, mine_far hN.1 (Nat.le_trans hbase0 hbl.size) (fun _ _ => rfl), hN.2⟩
    · rintro v w' ⟨h1, h2⟩
      exact hK v w' h1 h2
  | 20, _, hs, ho, hop, hds, hdep, hK =>
    have hop : o.op = .assign (.tmp 21) := Option.some.inj hop
    obtain ⟨u21, hu21, hv21⟩ := hdep 19 (by decide)
    have hv21' : OwnB w base (ibs ([gr, ep, (n : Int)] ++ sea)) u21 := hv21
    have e21 : a.eval (.tmp 21) = _ := ev_tmp hu21
    refine st3 ho hwt (v := _) (w' := w) ?_ (hK _ w hv21 (Below.refl _ _))
    unfold execOp
    rw [hop, ← e21]
    rfl
  | i + 21, hi, _, _, _, _, _, _ => exact absurd hi (by omega)

section
variable {w w' : World} {U S : Nat → Prop} {g bv : Nat} {bk : Value} {v : Va} {cs : List Value}
set_option maxRecDepth 100000 in
set_option maxHeartbeats 1600000 in
theorem wr3_any (h : VaIn w U g bk v cs) (hv : Blk w bv 25 [.pointer (some ⟨g, 0, none⟩)]) :
    Calls Tryz.prog 88 #[.pointer (some ⟨bv, 0, none⟩)] w (RetB w (epB v)) := by
  obtain ⟨A, n, c, e1, e2⟩ := h.sl
  have hl := e2.arg.1
  have hn : n ≤ 900 := by
    rcases h.ok.sea with e | ⟨e, _⟩
    · rw [e] at hl; simp at hl; omega
    · omega
  have hgr := h.ok.gr
  have hep := h.ok.ep
  have hwf : ∀ x ∈ [v.gr, v.ep, (n : Int)], Wf x := fun x hx => by
    simp only [List.mem_cons, List.not_mem_nil, or_false] at hx
    rcases hx with rfl | rfl | rfl
    · exact wf_in (by omega)
    · exact wf_in (by omega)
    · exact wf_in (by omega)
  have hE : epB v = ibs ([v.gr, v.ep, (n : Int)] ++ v.sea) := by rw [ibs_app]; unfold epB; rw [hl]
  rw [hE]
  have H := Lib.hid (And.intro hv (And.intro h.blk (And.intro h.c1 (And.intro h.c2 (And.intro e1 (And.intro e2.arg (And.intro hn hwf)))))))
  clear h hv e1 e2 hl hn hgr hep hwf hE
  go_enter Tryz.func88, Tryz.ntmps88
  go_upto_region 1 with fail
  refine region_rule4 (P := Tryz.prog) 21 22 wzD wzG wzS (wzR bv g w.heap.size v.gr v.ep A n c cs v.sea) _ _ (by kernel_rfl) rfl rfl (by kernel_rfl) (by decide +kernel) (wz_gb bv g w.heap.size v.gr v.ep A n c cs v.sea) (wz_sk bv g w.heap.size v.gr v.ep A n c cs v.sea) (wz_on bv g w.heap.size v.gr v.ep A n c cs v.sea) (wz_step bv g w.heap.size v.gr v.ep A n c cs v.sea (by rfl) (by kernel_rfl) rfl H.out.1 H.out.2.1 H.out.2.2.1 H.out.2.2.2.1 H.out.2.2.2.2.1 H.out.2.2.2.2.2.1 H.out.2.2.2.2.2.2.1 H.out.2.2.2.2.2.2.2 (Nat.le_refl _)) ?fin
  case fin =>
    intro a w6 hbase hbl hall
    obtain ⟨v1, hv1, hR1⟩ := hall 20 (by decide)
    have hR1' : OwnB w6 w.heap.size _ v1 := hR1
    obtain ⟨gg, hgge, hgg⟩ := base_lit hbase [2, 3, 4, 5, 6, 7, 8, 9, 10, 11, 12, 13, 14, 15, 16, 17, 18, 19, 20, 21, 1] (by rfl)
    have q1 : gg 1 = v1 := hgge 1 _ hv1
    simp only [List.foldl_cons, List.foldl_nil, List.setIfInBounds_toArray, List.set_cons_zero, List.set_cons_succ, q1] at hgg
    rw [hgg]
    have H6 := Lib.hid (And.intro hR1' hbl)
    clear hR1 hR1' hbl hall hbase
    go_wp2
    go_ret
    exact ⟨_, rfl, H6.out.1, H6.out.2⟩
end
end Go.Proofs.YtfaeechidjpjbaaGreat

namespace Go.Proofs.YtfaeechidjpjbaaGreat
open Go.RowKit
set_option linter.unusedVariables false
set_option linter.unusedSimpArgs false
/-- One of the thirteen: the function at place j, with its boxes. -/
def FnAt (w : World) (s0 s2 j : Nat) (f : Option Value) : Prop :=
  if j < 8 then ∃ bi, f = some (.func (.func 85) #[] #[.pointer (some ⟨s0, 0, none⟩), .pointer (some ⟨bi, 0, none⟩)]) ∧ w.cell? ⟨bi, 0, none⟩ = some (.int .i64 j) ∧ bi < w.heap.size ∧ s2 < bi
  else if j < 12 then ∃ bi, f = some (.func (.func 86) #[] #[.pointer (some ⟨s0, 0, none⟩), .pointer (some ⟨bi, 0, none⟩)]) ∧ w.cell? ⟨bi, 0, none⟩ = some (.int .i64 ((j - 8 : Nat) : Int)) ∧ bi < w.heap.size ∧ s2 < bi
  else f = some (.func (.func 88) #[] #[.pointer (some ⟨s0, 0, none⟩)])
theorem FnAt.out {w w' : World} {s0 s2 j : Nat} {f : Option Value} (h : FnAt w s0 s2 j f) (ho : Out (fun i => i ≤ s2) w w') : FnAt w' s0 s2 j f := by
  unfold FnAt at h ⊢
  split
  · rename_i hj
    rw [if_pos hj] at h
    obtain ⟨bi, e, h1, h2, h3⟩ := h
    exact ⟨bi, e, (World.cell?_of_block (ho.block bi h2 (by omega))).trans h1, Nat.lt_of_lt_of_le h2 ho.size, h3⟩
  · rename_i hj
    rw [if_neg hj] at h
    split
    · rename_i hk
      rw [if_pos hk] at h
      obtain ⟨bi, e, h1, h2, h3⟩ := h
      exact ⟨bi, e, (World.cell?_of_block (ho.block bi h2 (by omega))).trans h1, Nat.lt_of_lt_of_le h2 ho.size, h3⟩
    · rename_i hk
      rw [if_neg hk] at h
      exact h
/-- The writers, k of them laid. -/
structure Lw (w : World) (g s0 : Nat) (z : List Value) (k : Nat) (fs : List Value) (wr : World) : Prop where
  bel : Below s0 w wr
  b0 : Blk wr s0 25 [.pointer (some ⟨g, 0, none⟩)]
  b1 : Blk wr (s0 + 1) 115 z
  b2 : Blk wr (s0 + 1 + 1) 115 fs
  len : fs.length = 13
  lt : s0 + 3 ≤ wr.heap.size
  fn : ∀ j, j < k → FnAt wr s0 (s0 + 1 + 1) j fs[j]?
theorem Lw.next {w wr : World} {g s0 k : Nat} {z fs : List Value} (h : Lw w g s0 z k fs wr) (hk : k < 13) (x : Value) (F : Value)
    (hF : FnAt ((wr.alloc (.cells #[x] 3)).setCell ⟨s0 + 1 + 1, k, none⟩ F) s0 (s0 + 1 + 1) k (some F)) :
    Lw w g s0 z (k + 1) (fs.set k F) ((wr.alloc (.cells #[x] 3)).setCell ⟨s0 + 1 + 1, k, none⟩ F) := by
  have hl := h.lt
  have hs : s0 ≤ wr.heap.size := by omega
  refine ⟨(h.bel.alloc hs _).setCell (p := ⟨s0 + 1 + 1, k, none⟩) (by show s0 ≤ s0 + 1 + 1; omega) F, (h.b0.old _).far (p := ⟨s0 + 1 + 1, k, none⟩) (by show s0 ≠ s0 + 1 + 1; omega) F, (h.b1.old _).far (p := ⟨s0 + 1 + 1, k, none⟩) (by show s0 + 1 ≠ s0 + 1 + 1; omega) F, (h.b2.old _).set_ k F, by rw [List.length_set]; exact h.len, by simp [World.setCell]; omega, fun j hj => ?_⟩
  by_cases e : j = k
  · subst e
    rw [List.getElem?_set_self (by rw [h.len]; exact hk)]
    exact hF
  · rw [set_k (by omega)]
    refine (h.fn j (by omega)).out (((Out.ofBelow _ ((Below.refl _ _).alloc (Nat.le_refl _) _))).setCell (p := ⟨s0 + 1 + 1, k, none⟩) (fun _ => ?_) F)
    show s0 + 1 + 1 ≤ s0 + 1 + 1
    omega
theorem fn_box {wr : World} {s0 k : Nat} {x F : Value} (h : s0 + 3 ≤ wr.heap.size) : ((wr.alloc (.cells #[x] 3)).setCell ⟨s0 + 1 + 1, k, none⟩ F).cell? ⟨wr.heap.size, 0, none⟩ = some x ∧ wr.heap.size < ((wr.alloc (.cells #[x] 3)).setCell ⟨s0 + 1 + 1, k, none⟩ F).heap.size := by
  have hB : Blk (wr.alloc (.cells #[x] 3)) wr.heap.size 3 [x] := Blk.new rfl rfl
  exact ⟨(hB.far (p := ⟨s0 + 1 + 1, k, none⟩) (by show wr.heap.size ≠ s0 + 1 + 1; omega) F).cell (i := 0) rfl, by simp [World.setCell]⟩
section
variable {w w' : World} {U S : Nat → Prop} {g bv : Nat} {bk : Value} {v : Va} {cs : List Value}
theorem Lw.last {w wr : World} {g s0 : Nat} {z fs : List Value} (h : Lw w g s0 z 12 fs wr) {F : Value} (hF : FnAt (wr.setCell ⟨s0 + 1 + 1, 12, none⟩ F) s0 (s0 + 1 + 1) 12 (some F)) :
    Lw w g s0 z 13 (fs.set 12 F) (wr.setCell ⟨s0 + 1 + 1, 12, none⟩ F) := by
  refine ⟨h.bel.setCell (p := ⟨s0 + 1 + 1, 12, none⟩) (by show s0 ≤ s0 + 1 + 1; omega) F, h.b0.far (p := ⟨s0 + 1 + 1, 12, none⟩) (by show s0 ≠ s0 + 1 + 1; omega) F, h.b1.far (p := ⟨s0 + 1 + 1, 12, none⟩) (by show s0 + 1 ≠ s0 + 1 + 1; omega) F, h.b2.set_ 12 F, by rw [List.length_set]; exact h.len, by have := h.lt; simp [World.setCell]; omega, fun j hj => ?_⟩
  by_cases e : j = 12
  · subst e
    rw [List.getElem?_set_self (by rw [h.len]; omega)]
    exact hF
  · rw [set_k (by omega)]
    refine (h.fn j (by omega)).out ((Out.refl _ _).setCell (p := ⟨s0 + 1 + 1, 12, none⟩) (fun _ => ?_) F)
    show s0 + 1 + 1 ≤ s0 + 1 + 1
    omega
theorem Lw.one {w wr : World} {g s0 : Nat} {z fs : List Value} (h : Lw w g s0 z 13 fs wr) : fs.toArray.all (·.oneCell') = true := by
  rw [List.all_toArray, List.all_eq_true]
  intro x hx
  obtain ⟨j, hj, e⟩ := List.getElem_of_mem hx
  have hf := h.fn j (by have := h.len; omega)
  rw [List.getElem?_eq_getElem hj, e] at hf
  unfold FnAt at hf
  split at hf
  · obtain ⟨bi, e, _⟩ := hf; injection e with e; rw [e]; rfl
  · split at hf
    · obtain ⟨bi, e, _⟩ := hf; injection e with e; rw [e]; rfl
    · injection hf with e; rw [e]; rfl
theorem res_f {fn : Func} {p : Tmp} (h : fn.results = #[.cell p 115]) {tmps : Array Value} {w : World} {g : Nat} {cs : List Value}
    (hg : Blk w g 115 cs) (hp : tmps.getD p undef = .pointer (some ⟨g, 0, none⟩)) (hi : (Tryz.prog.info? 115).map (·.size) = some cs.toArray.size) :
    (results fn tmps).run Tryz.prog w = .ok (.agg cs.toArray) w := by
  have hp' : tmps[p]?.getD undef = .pointer (some ⟨g, 0, none⟩) := by simpa using hp
  simp [results, h, hp', asAddr, run_loadVar_row w g 115 115 cs.toArray (0, 0) _ hg Tryz.underlying115 rfl hi]
def nil13 : List Value := [.nilFunc, .nilFunc, .nilFunc, .nilFunc, .nilFunc, .nilFunc, .nilFunc, .nilFunc, .nilFunc, .nilFunc, .nilFunc, .nilFunc, .nilFunc]
set_option maxRecDepth 100000 in
set_option maxHeartbeats 1600000 in
theorem writers_any (g : Nat) : Calls Tryz.prog 62 #[.pointer (some ⟨g, 0, none⟩)] w fun e w' => ∃ fs : List Value, e = .returned (.agg fs.toArray) ∧ fs.length = 13 ∧ Below w.heap.size w w' ∧ Blk w' w.heap.size 25 [.pointer (some ⟨g, 0, none⟩)] ∧ ∀ j, j < 13 → FnAt w' w.heap.size (w.heap.size + 1 + 1) j fs[j]? := by
  have h0 : Lw w g w.heap.size nil13 0 nil13 (((w.alloc (.cells #[.pointer (some ⟨g, 0, none⟩)] 25)).alloc (.cells #[.nilFunc, .nilFunc, .nilFunc, .nilFunc, .nilFunc, .nilFunc, .nilFunc, .nilFunc, .nilFunc, .nilFunc, .nilFunc, .nilFunc, .nilFunc] 115)).alloc (.cells #[.nilFunc, .nilFunc, .nilFunc, .nilFunc, .nilFunc, .nilFunc, .nilFunc, .nilFunc, .nilFunc, .nilFunc, .nilFunc, .nilFunc, .nilFunc] 115)) :=
    ⟨(((Below.refl _ _).alloc (Nat.le_refl _) _).alloc (by simp) _).alloc (by simp; omega) _, ((Blk.new rfl rfl).old _).old _, (Blk.new rfl (by simp)).old _, Blk.new rfl (by simp), rfl, by simp, fun j hj => by omega⟩
  have H0 := Lib.hid h0
  clear h0
  go_enter Tryz.func62, Tryz.ntmps62
  go_wp2
  go_loopw [6] (fun i wr => ∃ k : Nat, k ≤ 8 ∧ i = .int .i64 k ∧ Hid (∃ fs, Lw w g w.heap.size nil13 k fs wr)) (fun i _ => 8 - (intOf i).toNat)
  case atStart => exact ⟨0, by omega, rfl, Lib.hid ⟨_, H0.out⟩⟩
  case round =>
    obtain ⟨k, hk, rfl, hL⟩ := hrel
    by_cases hlt : k < 8
    · have hlt' : (k : Int) < 8 := by omega
      obtain ⟨fs, hL⟩ := hL.out
      have h2 := hL.b2.old (.cells #[.int .i64 (k : Int)] 3)
      obtain ⟨u, hu⟩ : ∃ u, fs[k]? = some u := ⟨_, List.getElem?_eq_getElem (by rw [hL.len]; omega)⟩
      have hc := h2.cell (i := k) hu
      clear hu
      have hf := h2.free k
      have hw : IntKind.i64.wrap (0 + (k : Int)) = (k : Int) := by rw [IntWalk.i64_in _ (by omega)]; omega
      have i0 : 0 ≤ (k : Int) := by omega
      have i13 : (k : Int) < 13 := by omega
      have HL := Lib.hid hL
      clear h2 hL
      have ho : w.heap.size + 3 ≤ wr.heap.size := HL.out.lt
      go_wp2
      go_roundw
      case rel =>
        obtain ⟨q1, q2⟩ := fn_box (wr := wr) (s0 := w.heap.size) (k := k) (x := .int .i64 (k : Int)) (F := .func (.func 85) #[] #[.pointer (some ⟨w.heap.size, 0, none⟩), .pointer (some ⟨wr.heap.size, 0, none⟩)]) ho
        refine ⟨k + 1, by omega, by go_num, Lib.hid ⟨_, HL.out.next (by omega) _ _ ?_⟩⟩
        unfold FnAt
        rw [if_pos hlt]
        exact ⟨_, rfl, q1, q2, by omega⟩
      case measure => simp [intOf]; omega
    · have hk8 : k = 8 := by omega
      subst hk8
      have hlt' : ¬ (8 : Int) < 8 := by omega
      have HL8 := hL
      clear hL
      go_wp2
      go_loopw [14] (fun i wr => ∃ k : Nat, k ≤ 4 ∧ i = .int .i64 k ∧ Hid (∃ fs, Lw w g w.heap.size nil13 (8 + k) fs wr)) (fun i _ => 4 - (intOf i).toNat)
      case atStart => exact ⟨0, by omega, rfl, HL8⟩
      case round =>
        obtain ⟨k, hk, rfl, hL⟩ := hrel
        by_cases hlt : k < 4
        · have hlt' : (k : Int) < 4 := by omega
          obtain ⟨fs, hL⟩ := hL.out
          have h2 := hL.b2.old (.cells #[.int .i64 (k : Int)] 3)
          obtain ⟨u, hu⟩ : ∃ u, fs[8 + k]? = some u := ⟨_, List.getElem?_eq_getElem (by rw [hL.len]; omega)⟩
          have hc := h2.cell (i := 8 + k) hu
          clear hu
          have hf := h2.free (8 + k)
          have hw : IntKind.i64.wrap (8 + (k : Int)) = 8 + (k : Int) := by rw [IntWalk.i64_in _ (by omega)]
          have i0 : 0 ≤ 8 + (k : Int) := by omega
          have i13 : 8 + (k : Int) < 13 := by omega
          have hn : (8 + (k : Int)).toNat = 8 + k := by omega
          have HL := Lib.hid hL
          clear h2 hL
          have ho : w.heap.size + 3 ≤ wr.heap.size := HL.out.lt
          go_wp2
          go_roundw
          case rel =>
            obtain ⟨q1, q2⟩ := fn_box (wr := wr) (s0 := w.heap.size) (k := 8 + k) (x := .int .i64 (k : Int)) (F := .func (.func 86) #[] #[.pointer (some ⟨w.heap.size, 0, none⟩), .pointer (some ⟨wr.heap.size, 0, none⟩)]) ho
            refine ⟨k + 1, by omega, by go_num, Lib.hid ⟨_, HL.out.next (k := 8 + k) (by omega) _ _ ?_⟩⟩
            unfold FnAt
            rw [if_neg (by omega), if_pos (by omega), show 8 + k - 8 = k by omega]
            exact ⟨_, rfl, q1, q2, by omega⟩
          case measure => simp [intOf]; omega
        · have hk4 : k = 4 := by omega
          subst hk4
          have hlt' : ¬ (4 : Int) < 4 := by omega
          obtain ⟨fs, hL⟩ := hL.out
          obtain ⟨u, hu⟩ : ∃ u, fs[12]? = some u := ⟨_, List.getElem?_eq_getElem (by rw [hL.len]; omega)⟩
          have hc := hL.b2.cell (i := 12) hu
          have hf := hL.b2.free 12
          clear hu
          have hF : FnAt (wr.setCell ⟨w.heap.size + 1 + 1, 12, none⟩ (.func (.func 88) #[] #[.pointer (some ⟨w.heap.size, 0, none⟩)])) w.heap.size (w.heap.size + 1 + 1) 12 (some (.func (.func 88) #[] #[.pointer (some ⟨w.heap.size, 0, none⟩)])) := by
            unfold FnAt
            rw [if_neg (by omega), if_neg (by omega)]
          have hL2 := hL.last hF
          have hone := hL2.one
          have hrg := hL2.b2.range
          have hth := hL2.b1.there
          obtain ⟨fs2, hfs2⟩ : ∃ fs2, fs.set 12 (.func (.func 88) #[] #[.pointer (some ⟨w.heap.size, 0, none⟩)]) = fs2 := ⟨_, rfl⟩
          rw [hfs2] at hL2 hone hrg
          have hsz : fs2.toArray.size = 13 := List.size_toArray.trans hL2.len
          have hi : (Tryz.prog.info? 115).map (·.size) = some fs2.length := by rw [hL2.len]; kernel_rfl
          have hi2 : (Tryz.prog.info? 115).map (·.size) = some fs2.toArray.size := by rw [hsz]; kernel_rfl
          have hth2 : (wr.setCell ⟨w.heap.size + 1 + 1, 12, none⟩ (.func (.func 88) #[] #[.pointer (some ⟨w.heap.size, 0, none⟩)])).there (w.heap.size + 1) 0 fs2.toArray.size := by rw [hsz]; exact hth
          have HL := Lib.hid (And.intro hL2 (And.intro hone (And.intro hrg (And.intro hi (And.intro hi2 hth2)))))
          clear hL hF hL2 hone hrg hth hi hi2 hth2 hsz hfs2
          go_wp2_with first
            | (refine wpList_load_mid rfl 115 _ rfl (w.heap.size + 1 + 1) 0 rfl fs2 _ HL.out.2.2.1 Tryz.underlying115 rfl HL.out.2.2.2.1 ?_; simp only [Act.put, List.setIfInBounds_toArray, List.set_cons_succ, List.set_cons_zero])
            | (refine wpList_store_mid rfl 115 _ _ rfl (w.heap.size + 1) 0 fs2.toArray rfl rfl HL.out.2.2.2.2.2 HL.out.2.2.2.2.1 HL.out.2.1 ?_; simp only [Act.put])
          obtain ⟨hL2, _, _, hi, hi2, _⟩ := HL.out
          have hB := hL2.b1.setAll (vs := fs2) (by rw [hL2.len]; rfl)
          refine bodyPost_ret (res_f rfl hB rfl hi2) rfl ?_
          refine ⟨fs2, rfl, hL2.len, Go.Proofs.YtfaeechidjpjbaaGreat.Below.setCells (by omega) _ hL2.bel, hL2.b0.farAll (by omega) _, fun j hj => (hL2.fn j hj).out (out_cells (by show w.heap.size + 1 ≤ w.heap.size + 1 + 1; omega) _ (Out.refl _ _))⟩
end
end Go.Proofs.YtfaeechidjpjbaaGreat

namespace Go.Proofs.YtfaeechidjpjbaaGreat
open Go.RowKit Go.Maps
set_option linter.unusedVariables false
set_option linter.unusedSimpArgs false
theorem slb_info : (Tryz.prog.info? 22).map (fun i => (i.zero, i.size, i.bytes)) = some (some (.slice none 0 0), 1, 24) := by kernel_rfl
/-- A row of texts that a call owns. -/
def OwnS (w : World) (base : Nat) (v : Value) (vs : List Value) : Prop := w.ownsRow base 22 1 v vs.length vs
set_option maxRecDepth 100000 in
theorem run_appendS (w : World) (base : Nat) (v : Value) (vs : List Value) (hown : OwnS w base v vs) (g : Nat) (u : Value) (hu : u.oneCell' = true) (hg : Blk w g 22 [u]) (h10 : vs.length < 1000) (hbase : base ≤ w.heap.size) (ty : TypeId) :
    ∃ v' w', (Builtin.append_ #[23, 23] ty #[v, .slice (some ⟨g, 0, none⟩) 1 1]).run Tryz.prog w = .ok v' w' ∧ OwnS w' base v' (vs ++ [u]) ∧ w.grownBy w' v.ownBlock := by
  obtain ⟨i0, hi, hz0, hz1, hz2⟩ := info_parts slb_info
  have hcells : ∀ j z, ([u] : List Value)[j]? = some z → w.cell? ((⟨g, 0, none⟩ : Addr).add j) = some z := fun j z hz => by
    rw [add_mk, Nat.zero_add]; exact hg.cell hz
  obtain ⟨v', w', h1, h2, h3, _, h5⟩ := run_append_own_at (P := Tryz.prog) w base 23 ty 22 i0 _ 1 24 Tryz.underlying23 hi hz0 hz1 hz2 rfl (by decide) v vs.length vs hown ⟨g, 0, none⟩ 1 1 [u]
    (by simp) hcells (by simpa using hu) (by simp only [maxLen]; omega) (by omega) hbase
  exact ⟨v', w', h1, by unfold OwnS; rw [List.length_append]; exact h2, h3⟩
theorem wp_appendS {w : World} {ops : Array Oper} {rest : List Oper} {o : Oper} {a : Act} {Q : Exit → Act → World → Prop} (hgd : o.guard = none) (s x : Operand)
    (ho : o.op = .call { callee := .builtin .append, args := #[s, x], argTypes := #[23, 23] })
    (base : Nat) (v : Value) (vs : List Value) (hs : a.eval s = v) (hown : OwnS w base v vs) (g : Nat) (u : Value) (hx : a.eval x = .slice (some ⟨g, 0, none⟩) 1 1) (hu : u.oneCell' = true) (hg : Blk w g 22 [u])
    (h10 : vs.length < 1000) (hbase : base ≤ w.heap.size)
    (h : ∀ v' w', OwnS w' base v' (vs ++ [u]) → w.grownBy w' v.ownBlock → wpList Tryz.prog ops Q rest (a.put o.dst v') w') :
    wpList Tryz.prog ops Q (o :: rest) a w := by
  obtain ⟨v', w', hrun, h2, h3⟩ := run_appendS w base v vs hown g u hu hg h10 hbase o.type
  refine wpList_plain hgd fun K hK => ?_
  unfold Oper.wp execOp
  simp only [ho, resolve, invoke, builtin, Sem.run_bind, Sem.run_pure, Result.andThen_ok, List.map_toArray, List.map_cons, List.map_nil, hs, hx, hrun]
  exact hK _ _ (h v' w' h2 h3)
theorem mine_grown {w w' : World} {base base2 : Nat} {x u : Value} {l : List UInt8} {vs : List Value} (h : Mine w base 5 x l) (hO : OwnS w base2 u vs) (hg : w.grownBy w' u.ownBlock) : Mine w' base 5 x l := by
  obtain ⟨h1, h2 | ⟨g, cap, cur, h3, h4, h5, h6⟩⟩ := h
  · exact ⟨h1, .inl h2⟩
  · refine ⟨h1, .inr ⟨g, cap, cur, h3, h4, ?_, h6⟩⟩
    refine (hg.block g (Array.getElem?_eq_some_iff.1 h5).1 (fun e => ?_)).trans h5
    obtain ⟨_, ⟨k2, _⟩ | ⟨g2, cap2, cur2, k3, k4, k5, k6⟩⟩ := hO
    · rw [k2] at e; simp [Value.ownBlock] at e
    · rw [k3] at e
      simp [Value.ownBlock] at e
      subst e
      rw [h5] at k5
      injection k5 with k5
      injection k5 with _ k5
      revert k5
      decide
theorem run_index_fn (w : World) (cs : List Value) (k : Nat) (hk : k < 13) {F : Value} (hF : cs[k]? = some F) : (Instr.index 115 (.agg cs.toArray) (.int .i64 k)).run Tryz.prog w = .ok F w := by
  have hin : 0 ≤ (k : Int) ∧ (k : Int) < 13 := by omega
  have hs : (Go.sizeOf 108).run Tryz.prog w = .ok 1 w := by kernel_rfl
  have ha : (isAgg 108).run Tryz.prog w = .ok false w := by kernel_rfl
  have hu := run_underlying Tryz.underlying115 w
  have hF' : cs.toArray[k]? = some F := by simpa using hF
  have hlt : (k : Int) < 13 := hin.2
  simp [Instr.index, hu, asIntOf, hlt, part, hs, ha, hF, go_sem]
  intro h
  omega
theorem ownS_below {w w' : World} {base : Nat} {u : Value} {vs : List Value} (h : OwnS w base u vs) (hb : Below w.heap.size w w') : OwnS w' base u vs := by
  obtain ⟨h1, h2 | ⟨g, cap, cur, h3, h4, h5, h6⟩⟩ := h
  · exact ⟨h1, .inl h2⟩
  · exact ⟨h1, .inr ⟨g, cap, cur, h3, h4, (hb.block g (Array.getElem?_eq_some_iff.1 h5).1).trans h5, h6⟩⟩
theorem oneS (A : Option Addr) (n c : Nat) : (Value.slice A n c).oneCell' = true := rfl
def leafB (v : Va) (j : Nat) : List UInt8 := if j < 8 then v.bl j else if j < 12 then clB (v.cl (j - 8)) else epB v
/-- So many leaves, in a row of their own. -/
structure LfS (w : World) (base : Nat) (v : Va) (k : Nat) (u : Value) (vs : List Value) : Prop where
  own : OwnS w base u vs
  len : vs.length = k
  at_ : ∀ j, j < k → ∃ x, vs[j]? = some x ∧ Mine w base 5 x (leafB v j)
theorem LfS.next {w1 w2 w3 wr : World} {v : Va} {k : Nat} {u u2 x : Value} {vs : List Value} (h : LfS wr w1.heap.size v k u vs) (hb : Below w1.heap.size w1 wr) (hN : NewB wr (leafB v k) x w2)
    (hO : OwnS w3 w1.heap.size u2 (vs ++ [x])) (hg : (w2.alloc (.cells #[x] 22)).grownBy w3 u.ownBlock) : LfS w3 w1.heap.size v (k + 1) u2 (vs ++ [x]) ∧ Below w1.heap.size w1 w3 := by
  have ba : Below w2.heap.size w2 (w2.alloc (.cells #[x] 22)) := (Below.refl _ _).alloc (Nat.le_refl _) _
  have b2 := hN.2.trans (ba.mono hN.2.size)
  have hOw : OwnS (w2.alloc (.cells #[x] 22)) w1.heap.size u vs := ownS_below h.own b2
  refine ⟨⟨hO, by simp [h.len], fun j hj => ?_⟩, (hb.trans (b2.mono hb.size)).grown hg (hb.trans (b2.mono hb.size)).size (fun i hi => (World.ownsRow.lt hOw i hi).1)⟩
  by_cases e : j < k
  · obtain ⟨y, e1, e2⟩ := h.at_ j e
    exact ⟨y, by rw [List.getElem?_append_left (by rw [h.len]; exact e)]; exact e1, mine_grown (Mine.after e2 b2) hOw hg⟩
  · have : j = k := by omega
    subst this
    exact ⟨x, by rw [List.getElem?_append_right (by rw [h.len]; omega)]; simp [h.len], mine_grown (Mine.after (mine_far hN.1 hb.size (fun _ _ => rfl)) ba) hOw hg⟩
theorem LfS.lower {w : World} {b1 b2 : Nat} {v : Va} {k : Nat} {u : Value} {vs : List Value} (h : LfS w b1 v k u vs) (hb : b2 ≤ b1) : LfS w b2 v k u vs := by
  refine ⟨?_, h.len, fun j hj => let ⟨x, e1, e2⟩ := h.at_ j hj; ⟨x, e1, mine_far e2 hb (fun _ _ => rfl)⟩⟩
  obtain ⟨h1, h2 | ⟨g, cap, cur, h3, h4, h5⟩⟩ := h.own
  · exact ⟨h1, .inl h2⟩
  · exact ⟨h1, .inr ⟨g, cap, cur, h3, Nat.le_trans hb h4, h5⟩⟩
section
variable {w w' : World} {U S : Nat → Prop} {g bv : Nat} {bk : Value} {v : Va} {cs : List Value}
set_option maxRecDepth 100000 in
set_option maxHeartbeats 1600000 in
theorem leaves_in (h : VaIn w U g bk v cs) : Calls Tryz.prog 31 #[.pointer (some ⟨g, 0, none⟩)] w fun e w' => ∃ u vs, e = .returned u ∧ LfS w' w.heap.size v 13 u vs ∧ Below w.heap.size w w' := by
  have Hn := Lib.hid (vnone_in h)
  have H := Lib.hid h
  clear h
  go_enter Tryz.func31, Tryz.ntmps31
  go_wp2_with first
    | (go_at_call 55; refine Hn.out.mono ?_; rintro e w' ⟨rfl, hww⟩; have hww2 := hww.symm; subst hww2; clear hww)
    | (go_at_call 62; refine (writers_any g).mono ?_; rintro e w1 ⟨fs, rfl, hl, hb, hB, hF⟩; have HW := Lib.hid (And.intro hl (And.intro hb (And.intro hB hF))); clear hl hb hB hF)
  go_loopw [3, 10] (fun u i wr => ∃ (k : Nat), k ≤ 13 ∧ i = .int .i64 k ∧ Hid (∃ vs, LfS wr w1.heap.size v k u vs ∧ Below w1.heap.size w1 wr)) (fun _ i _ => 13 - (intOf i).toNat)
  case atStart => exact ⟨0, by omega, rfl, Lib.hid ⟨[], ⟨World.ownsRow_nil _ _ _ _, rfl, fun j hj => by omega⟩, Below.refl _ _⟩⟩
  case round =>
    obtain ⟨k, hk, rfl, hL⟩ := hrel
    by_cases hlt : k < 13
    · have hlt' : (k : Int) < 13 := by omega
      have i0 : 0 ≤ (k : Int) := by omega
      obtain ⟨vs, hL, hb⟩ := hL.out
      have hfk := HW.out.2.2.2 k hlt
      have hln := HW.out.1
      by_cases h8 : k < 8
      · unfold FnAt at hfk
        rw [if_pos h8] at hfk
        obtain ⟨bi, hfk, hbi, hbl, _⟩ := hfk
        have hb1 := HW.out.2.1.trans (hb.mono HW.out.2.1.size)
        have hc := Lib.hid (wr1_any (H.out.below hb1) (((HW.out.2.2.1.below hb HW.out.2.2.1.lt).cell (i := 0) rfl)) h8 ((hb.cell (p := ⟨bi, 0, none⟩) hbl).trans hbi))
        have HL := Lib.hid (And.intro hL (And.intro hb trivial))
        have hx := run_index_fn wr fs k hlt hfk
        have Hlf : Hid (leafB v k = v.bl k) := Lib.hid (by unfold leafB; rw [if_pos h8])
        clear hL hb hbi hbl hfk hb1
        go_wp2_with fail
        refine hc.out.mono ?_
        rintro e w2 ⟨x, rfl, hN⟩
        obtain ⟨A2, c2, rfl, _, _, _⟩ := hN.form
        have hO5 := ownS_below HL.out.1.own (hN.2.trans (((Below.refl _ w2).alloc (Nat.le_refl _) (.cells #[.slice A2 (v.bl k).length c2] 22)).mono hN.2.size))
        have h10 : vs.length < 1000 := by have := HL.out.1.len; omega
        have hsz : w1.heap.size ≤ (w2.alloc (.cells #[.slice A2 (v.bl k).length c2] 22)).heap.size := Nat.le_trans (Nat.le_trans HL.out.2.1.size hN.2.size) (by simp)
        have HN := Lib.hid (And.intro hN (And.intro hO5 hsz))
        clear hN hO5 hsz
        simp only
        go_wp2_with (at_builtin; go_loud (refine wp_appendS rfl _ _ rfl w1.heap.size _ vs rfl HN.out.2.1 _ _ rfl (oneS _ _ _) (Blk.new rfl rfl) h10 HN.out.2.2 ?_; intro v6 w6 hO6 hg6))
        go_roundw
        case rel =>
          obtain ⟨r1, r2⟩ := HL.out.1.next HL.out.2.1 (by rw [Hlf.out]; exact HN.out.1) hO6 hg6
          exact ⟨k + 1, by omega, by go_num, Lib.hid ⟨_, r1, r2⟩⟩
        case measure => simp [intOf]; omega
      · by_cases h12 : k < 12
        · unfold FnAt at hfk
          rw [if_neg h8, if_pos h12] at hfk
          obtain ⟨bi, hfk, hbi, hbl, _⟩ := hfk
          have hb1 := HW.out.2.1.trans (hb.mono HW.out.2.1.size)
          have hc := Lib.hid (wr2_any (H.out.below hb1) (((HW.out.2.2.1.below hb HW.out.2.2.1.lt).cell (i := 0) rfl)) (i := k - 8) (by omega) ((hb.cell (p := ⟨bi, 0, none⟩) hbl).trans hbi))
          have HL := Lib.hid (And.intro hL (And.intro hb trivial))
          have hx := run_index_fn wr fs k hlt hfk
          have Hlf : Hid (leafB v k = clB (v.cl (k - 8))) := Lib.hid (by unfold leafB; rw [if_neg h8, if_pos h12])
          clear hL hb hbi hbl hfk hb1
          generalize clB (v.cl (k - 8)) = y at *
          go_wp2_with fail
          refine hc.out.mono ?_
          rintro e w2 ⟨x, rfl, hN⟩
          obtain ⟨A2, c2, rfl, _, _, _⟩ := hN.form
          have hO5 := ownS_below HL.out.1.own (hN.2.trans (((Below.refl _ w2).alloc (Nat.le_refl _) (.cells #[.slice A2 y.length c2] 22)).mono hN.2.size))
          have h10 : vs.length < 1000 := by have := HL.out.1.len; omega
          have hsz : w1.heap.size ≤ (w2.alloc (.cells #[.slice A2 y.length c2] 22)).heap.size := Nat.le_trans (Nat.le_trans HL.out.2.1.size hN.2.size) (by simp)
          have HN := Lib.hid (And.intro hN (And.intro hO5 hsz))
          clear hN hO5 hsz
          simp only
          go_wp2_with (at_builtin; go_loud (refine wp_appendS rfl _ _ rfl w1.heap.size _ vs rfl HN.out.2.1 _ _ rfl (oneS _ _ _) (Blk.new rfl rfl) h10 HN.out.2.2 ?_; intro v6 w6 hO6 hg6))
          go_roundw
          case rel =>
            obtain ⟨r1, r2⟩ := HL.out.1.next HL.out.2.1 (by rw [Hlf.out]; exact HN.out.1) hO6 hg6
            exact ⟨k + 1, by omega, by go_num, Lib.hid ⟨_, r1, r2⟩⟩
          case measure => simp [intOf]; omega
        · unfold FnAt at hfk
          rw [if_neg h8, if_neg h12] at hfk
          have hb1 := HW.out.2.1.trans (hb.mono HW.out.2.1.size)
          have hc := Lib.hid (wr3_any (H.out.below hb1) (HW.out.2.2.1.below hb HW.out.2.2.1.lt))
          have HL := Lib.hid (And.intro hL (And.intro hb trivial))
          have hx := run_index_fn wr fs k hlt hfk
          have Hlf : Hid (leafB v k = epB v) := Lib.hid (by unfold leafB; rw [if_neg h8, if_neg h12])
          clear hL hb hfk hb1
          generalize epB v = y at *
          go_wp2_with fail
          refine hc.out.mono ?_
          rintro e w2 ⟨x, rfl, hN⟩
          obtain ⟨A2, c2, rfl, _, _, _⟩ := hN.form
          have hO5 := ownS_below HL.out.1.own (hN.2.trans (((Below.refl _ w2).alloc (Nat.le_refl _) (.cells #[.slice A2 y.length c2] 22)).mono hN.2.size))
          have h10 : vs.length < 1000 := by have := HL.out.1.len; omega
          have hsz : w1.heap.size ≤ (w2.alloc (.cells #[.slice A2 y.length c2] 22)).heap.size := Nat.le_trans (Nat.le_trans HL.out.2.1.size hN.2.size) (by simp)
          have HN := Lib.hid (And.intro hN (And.intro hO5 hsz))
          clear hN hO5 hsz
          simp only
          go_wp2_with (at_builtin; go_loud (refine wp_appendS rfl _ _ rfl w1.heap.size _ vs rfl HN.out.2.1 _ _ rfl (oneS _ _ _) (Blk.new rfl rfl) h10 HN.out.2.2 ?_; intro v6 w6 hO6 hg6))
          go_roundw
          case rel =>
            obtain ⟨r1, r2⟩ := HL.out.1.next HL.out.2.1 (by rw [Hlf.out]; exact HN.out.1) hO6 hg6
            exact ⟨k + 1, by omega, by go_num, Lib.hid ⟨_, r1, r2⟩⟩
          case measure => simp [intOf]; omega
    · have hk13 : k = 13 := by omega
      subst hk13
      have hlt' : ¬ (13 : Int) < 13 := by omega
      have HL := hL
      clear hL
      go_wp2
      go_ret
      obtain ⟨vs, hL, hb⟩ := HL.out
      exact ⟨_, rfl, ⟨vs, hL.lower HW.out.2.1.size⟩, HW.out.2.1.trans (hb.mono HW.out.2.1.size)⟩
end
end Go.Proofs.YtfaeechidjpjbaaGreat
