/-
  The crew's Votes over the code.
-/
import Derived.Test.YtjibbbfpbflgmaaMak8
namespace Go.Proofs.Ytjibbbfpbflgmaa
open Go.RowKit Go.Shelf CrewP
set_option linter.unusedVariables false

/-- Who has voted: by the nodes' places. -/
def vbit (l ns : List Int) (i : Nat) : Bool := match l[i]? with | some x => decide (x ∈ ns) | none => false
def vb (l ns : List Int) : List Value := (List.range 7).map fun i => Value.bool (vbit l ns i)
theorem vb_len (l ns : List Int) : (vb l ns).length = 7 := by simp [vb]
theorem vb_get (l ns : List Int) {i : Nat} (hi : i < 7) : (vb l ns)[i]? = some (.bool (vbit l ns i)) := by
  unfold vb
  rw [List.getElem?_map, List.getElem?_range hi]
  rfl
theorem vb_nil (l : List Int) : vb l [] = List.replicate 7 (.bool false) := by
  have : ∀ i, vbit l [] i = false := fun i => by unfold vbit; split <;> simp
  unfold vb
  simp [this]
  rfl
theorem vbit_at {l : List Int} {k : Nat} {x : Int} (h : l[k]? = some x) (ns : List Int) : vbit l ns k = decide (x ∈ ns) := by unfold vbit; rw [h]
theorem vb_same {l ns : List Int} {x : Int} (h : x ∉ l ∨ x ∈ ns) : vb l (ns ++ [x]) = vb l ns ∧ votesL l (ns ++ [x]) = votesL l ns := by
  have e : ∀ y ∈ l, decide (y ∈ ns ++ [x]) = decide (y ∈ ns) := fun y hy => by
    by_cases hyx : y = x
    · subst hyx
      rcases h with h | h
      · exact absurd hy h
      · simp [h]
    · simp [hyx]
  constructor
  · unfold vb
    refine List.map_congr_left fun i _ => ?_
    unfold vbit
    split
    · rename_i y hy
      rw [e y (List.mem_of_getElem? hy)]
    · rfl
  · unfold votesL
    exact List.countP_congr fun y hy => by rw [e y hy]
theorem vb_more {l ns : List Int} (hl : l.Nodup) {k : Nat} {x : Int} (hk : l[k]? = some x) (h7 : l.length ≤ 7) (h : x ∉ ns) : vb l (ns ++ [x]) = (vb l ns).set k (.bool true) ∧ votesL l (ns ++ [x]) = votesL l ns + 1 := by
  obtain ⟨hkl, e⟩ := List.getElem?_eq_some_iff.1 hk
  constructor
  · apply List.ext_getElem?
    intro i
    rw [List.getElem?_set, vb_len]
    by_cases hi : i < 7
    · rw [vb_get _ _ hi]
      by_cases hki : k = i
      · subst hki
        rw [if_pos rfl, if_pos hi, vbit_at hk]
        simp
      · rw [if_neg hki, vb_get _ _ hi]
        congr 2
        unfold vbit
        split
        · rename_i y hy
          obtain ⟨hil, e'⟩ := List.getElem?_eq_some_iff.1 hy
          have : y ≠ x := by
            rintro rfl
            exact hki ((List.getElem_inj hl).1 (e.trans e'.symm))
          simp [this]
        · rfl
    · rw [List.getElem?_eq_none (by rw [vb_len]; omega)]
      rw [if_neg (by omega), List.getElem?_eq_none (by rw [vb_len]; omega)]
  · have := votes_more hl hkl (s := ns) (by rw [e]; exact h)
    rwa [e] at this

section
variable (f : Int) (A : Option Addr) (n c : Nat) (l : List Int) (w : World)
set_option maxRecDepth 100000 in
set_option maxHeartbeats 1600000 in
theorem votes_any (h : ArgI w A n c l) (A2 : Option Addr) (n2 c2 : Nat) (ns : List Int) (h2 : ArgI w A2 n2 c2 ns) :
    Calls Try.prog 39 #[.agg #[.int .i64 f, .slice A n c], .slice A2 n2 c2] w fun e w' => e = .returned (.int .i64 (votesR f l ns : Nat)) ∧ Below w.heap.size w w' := by
  have hln := h.1
  have hln2 := h2.1
  have hcm2 := h2.2.2.1
  have hnc2 := h2.2.1
  unfold maxLen at hcm2
  cases hok : okC f l with
  | false =>
    have H := Lib.hid (check2 f A n c l w h 110 (chk1 hok))
    have e : votesR f l ns = 0 := by simp [votesR, hok]
    rw [e]; clear e hok h h2
    go_enter Try.func39, Try.ntmps39
    go_wp2_with (go_at_call 20; refine H.out.mono ?_; rintro e w' ⟨rfl, hx⟩; replace hx := Lib.hid hx)
    go_ret
    exact ⟨rfl, hx.out.bel⟩
  | true =>
    obtain ⟨hf, hl, hasc⟩ := ok_len hok
    have H := Lib.hid (check2 f A n c l w h 0 (chk0 hok))
    have e : votesR f l ns = votesL l ns := by simp [votesR, hok]
    have hn7 : n ≤ 7 := by omega
    have Hh := Lib.hid h
    rw [e]; clear e hok h hl hf
    have HF := Lib.hid (fun x W (hW : ArgI W A n c l) => find_any A n c l x W hW (by omega) hasc)
    have Ha := Lib.hid hasc
    have H2 := Lib.hid h2
    clear hasc h2
    go_enter Try.func39, Try.ntmps39
    go_wp2_with fail
    refine H.out.mono ?_
    rintro e w1 ⟨rfl, hx⟩
    have k0 := hx.k0
    have k1 := hx.k1
    have hB1 : Below w1.heap.size w1 (w1.alloc (.cells #[.bool false, .bool false, .bool false, .bool false, .bool false, .bool false, .bool false] 69)) := (Below.refl _ _).alloc (Nat.le_refl _) _
    have hBv : Blk (w1.alloc (.cells #[.bool false, .bool false, .bool false, .bool false, .bool false, .bool false, .bool false] 69)) w1.heap.size 69 (vb l []) := Blk.new (by rw [vb_nil]; rfl) rfl
    have hx1 := hx.on hB1
    have hgw := hx.bel.size
    have hgl : w.heap.size < w1.heap.size := hx.blk.lt
    have Hx := Lib.hid (And.intro hBv hx1)
    clear hx hB1 hBv hx1
    go_wp2
    go_loopw [5, 16] (fun v5 v16 wr => ∃ j : Nat, j ≤ n2 ∧ v16 = .int .i64 j ∧ v5 = .int .i64 (votesL l (ns.take j) : Nat) ∧ Blk wr w1.heap.size 69 (vb l (ns.take j)) ∧ Bx w wr f A n c l) (fun _ v _ => n2 - (intOf v).toNat)
    case atStart => exact ⟨0, Nat.zero_le _, rfl, by simp [votesL], Hx.out.1, Hx.out.2⟩
    case round =>
      obtain ⟨j, hj, rfl, rfl, hBr, hxr⟩ := hrel
      have hi0 : (0 : Int) ≤ j := by omega
      by_cases hlt : j < n2
      · have hi1 : (j : Int) < n2 := by omega
        have hjl : j < ns.length := by omega
        have hA2 := H2.out.after hxr.bel
        obtain ⟨b1, o1, rfl, l1, q1⟩ := hA2.2.2.2.1.at_ hjl
        have c1 := q1 j hjl
        obtain ⟨x, hxj⟩ : ∃ x, ns[j] = x := ⟨_, rfl⟩
        have htk : ns.take (j + 1) = ns.take j ++ [x] := by rw [List.take_succ_eq_append_getElem hjl, hxj]
        rw [hxj] at c1
        have k0 := hxr.k0
        have k1 := hxr.k1
        have hvl := votes_len l (ns.take j)
        have HB := Lib.hid (And.intro hBr hxr)
        have Ht := Lib.hid htk
        clear q1 hxj htk hBr hxr hA2 hjl
        by_cases hxl : x ∈ l
        · obtain ⟨hkl, hke⟩ := (at_found Ha.out x).2 hxl
          have hget := at_get Ha.out hxl
          have hFx := HF.out x wr HB.out.2.arg
          rw [show decide (x ∈ l) = true by simp [hxl]] at hFx
          obtain ⟨k, hk⟩ : ∃ k, at_ l x = k := ⟨_, rfl⟩
          rw [hk] at hFx hkl hget
          have hk0 : (0 : Int) ≤ k := by omega
          have hk7 : (k : Int) < 7 := by omega
          have hbit := vb_get l (ns.take j) (show k < 7 by omega)
          rw [vbit_at hget] at hbit
          have HFx := Lib.hid hFx
          clear hFx hk hke
          by_cases hin : x ∈ ns.take j
          · obtain ⟨h3, h4⟩ := vb_same (l := l) (ns := ns.take j) (x := x) (.inr hin)
            rw [show decide (x ∈ ns.take j) = true by simp [hin]] at hbit
            have Hs := Lib.hid (And.intro h3 (And.intro h4 hbit))
            clear h3 h4 hbit hin hget hxl
            go_wp2_with fail
            refine HFx.out.mono ?_
            rintro e w3 ⟨rfl, hb⟩
            have hB3 := HB.out.1.below hb HB.out.1.lt
            have hx3 := HB.out.2.on hb
            have c3 : w3.cell? ⟨w1.heap.size, k, none⟩ = some (.bool true) := hB3.cell Hs.out.2.2
            have H3 := Lib.hid (And.intro hB3 hx3)
            clear hB3 hx3 hb k0 k1 c1
            go_wp2
            refine ⟨⟨j + 1, by omega, by go_num, by rw [Ht.out, Hs.out.2.1], by rw [Ht.out, Hs.out.1]; exact H3.out.1, H3.out.2⟩, by simp [intOf]; omega⟩
          · obtain ⟨h3, h4⟩ := vb_more (asc_nodup Ha.out) hget (by omega) hin
            rw [show decide (x ∈ ns.take j) = false by simp [hin]] at hbit
            have Hs := Lib.hid (And.intro h3 (And.intro h4 hbit))
            have hw : IntKind.i64.wrap ((votesL l (ns.take j) : Nat) + 1 : Int) = (votesL l (ns.take j) : Nat) + 1 := IntWalk.i64_in _ (by omega)
            clear h3 h4 hbit hin hget hxl
            go_wp2_with fail
            refine HFx.out.mono ?_
            rintro e w3 ⟨rfl, hb⟩
            have hB3 := HB.out.1.below hb HB.out.1.lt
            have hx3 := HB.out.2.on hb
            have c3 : w3.cell? ⟨w1.heap.size, k, none⟩ = some (.bool false) := hB3.cell Hs.out.2.2
            have q3 := hB3.free
            have hB4 := hB3.set_ k (.bool true)
            have hx4 : Bx w (w3.setCell ⟨w1.heap.size, k, none⟩ (.bool true)) f A n c l := ⟨hx3.blk.far (by show w.heap.size ≠ w1.heap.size; omega) _, hx3.bel.setCell hgw _, Hh.out.after (hx3.bel.setCell hgw _)⟩
            have H3 := Lib.hid (And.intro hB4 hx4)
            clear hB3 hx3 hb k0 k1 c1 hB4 hx4
            go_wp2
            refine ⟨⟨j + 1, by omega, by go_num, by rw [Ht.out, Hs.out.2.1]; go_num, by rw [Ht.out, Hs.out.1]; exact H3.out.1, H3.out.2⟩, by simp [intOf]; omega⟩
        · obtain ⟨h3, h4⟩ := vb_same (l := l) (ns := ns.take j) (x := x) (.inl hxl)
          have hFx := HF.out x wr HB.out.2.arg
          rw [show decide (x ∈ l) = false by simp [hxl]] at hFx
          generalize at_ l x = k at hFx
          have HFx := Lib.hid hFx
          have Hs := Lib.hid (And.intro h3 h4)
          clear h3 h4 hFx hxl
          go_wp2_with fail
          refine HFx.out.mono ?_
          rintro e w3 ⟨rfl, hb⟩
          have hB3 := HB.out.1.below hb HB.out.1.lt
          have hx3 := HB.out.2.on hb
          have H3 := Lib.hid (And.intro hB3 hx3)
          clear hB3 hx3 hb k0 k1 c1
          go_wp2
          refine ⟨⟨j + 1, by omega, by go_num, by rw [Ht.out, Hs.out.2], by rw [Ht.out, Hs.out.1]; exact H3.out.1, H3.out.2⟩, by simp [intOf]; omega⟩
      · have hjn : j = n2 := by omega
        have hi1 : ¬ (j : Int) < n2 := by omega
        rw [List.take_of_length_le (by omega)]
        have HB := Lib.hid hxr.bel
        clear hBr hxr
        go_wp2
        go_ret
        exact ⟨rfl, HB.out⟩
end
end Go.Proofs.Ytjibbbfpbflgmaa
