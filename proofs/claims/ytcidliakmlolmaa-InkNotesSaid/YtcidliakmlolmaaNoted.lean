/-
  The statements' own helpers: noted.
-/
import Derived.Test.YtcidliakmlolmaaInkOf
namespace Go.Proofs.Ytcidliakmlolmaa
open Go.RowKit Go.Maps
set_option linter.unusedVariables false

/-- The bytes of a slice lie in none of these blocks. -/
def OffS (S : Nat → Prop) (A : Option Addr) (l : List UInt8) : Prop := l ≠ [] → ∀ a, A = some a → ¬ S a.block
theorem Bs.out {S : Nat → Prop} {w w' : World} {A : Option Addr} {l : List UInt8} (h : Bs w A l) (ho : OffS S A l) (hw : Out S w w') : Bs w' A l := by
  refine ⟨h.1, fun hn => ?_⟩
  obtain ⟨b, off, e, hb, hc⟩ := h.2 hn
  refine ⟨b, off, e, Nat.lt_of_lt_of_le hb hw.size, fun j u hu => ?_⟩
  have hne : l ≠ [] := fun e => by subst e; simp at hn
  exact (World.cell?_of_block (a := ⟨b, off + j, none⟩) (hw.block b hb (ho hne _ e))).trans (hc j u hu)
theorem Bs.off {w : World} {A : Option Addr} {l : List UInt8} {S : Nat → Prop} (h : Bs w A l) (hS : ∀ i, S i → w.heap.size ≤ i) : OffS S A l := fun hl a ha hs => by
  obtain ⟨b, off, e, hb, _⟩ := h.2 (by cases l with | nil => exact absurd rfl hl | cons x t => simp)
  rw [ha] at e
  cases e
  have := hS _ hs
  simp only at this
  omega
theorem OffS.mono {A : Option Addr} {l : List UInt8} {S S' : Nat → Prop} (h : OffS S A l) (hS : ∀ i a, A = some a → l ≠ [] → a.block = i → S' i → S i) : OffS S' A l := fun hl a ha hs => h hl a ha (hS _ a ha hl rfl hs)
theorem OffS.grown {A : Option Addr} {l : List UInt8} {S : Nat → Prop} {w w' : World} (h : OffS S A l) (hB : Bs w A l) : OffS (Grown S w w') A l := fun hl a ha hs => by
  obtain ⟨b, off, e, hb, _⟩ := hB.2 (by cases l with | nil => exact absurd rfl hl | cons x t => simp)
  rw [ha] at e
  cases e
  rcases hs with hs | hs
  · exact h hl _ ha hs
  · have := hs.1; simp only at this; omega

theorem BookAt.later {w w1 w2 : World} {S : Nat → Prop} {g : Nat} {L : List (List UInt8)} {c : Bool} {k : Nat} (h : BookAt w1 (Grown S w w1) g L c k) (hb : Below w1.heap.size w1 w2) : BookAt w2 (Grown S w w2) g L c k :=
  (h.below hb).more (fun i hi => by
    rcases hi with hi | hi
    · exact .inl hi
    · exact .inr ⟨hi.1, Nat.lt_of_lt_of_le hi.2 hb.size⟩) (fun i hi => by
    rcases hi with hi | hi
    · exact Nat.lt_of_lt_of_le (h.lt (.inl hi)) hb.size
    · exact hi.2)

set_option maxRecDepth 100000 in
set_option maxHeartbeats 800000 in
theorem noted_any (S : Nat → Prop) (g : Nat) (L : List (List UInt8)) (c : Bool) (k : Nat) (A : Option Addr) (n cp : Nat) (x : List UInt8) (w : World)
    (h : BookAt w S g L c k) (hA : OffS S A x) (hL : L.length < 1000000) (hk : k < 1000000) (hB : Bs w A x) (hn : x.length = n) (hc : n ≤ cp) (hcm : cp ≤ maxLen) :
    Calls Try.prog 23 #[.pointer (some ⟨g, 0, none⟩), .slice A n cp] w fun e w' =>
      e = .returned (.bool (decide (x.length ≤ 65536))) ∧ BookAt w' (Grown S w w') g (ofL L c k x).1 (ofL L c k x).2.1 (ofL L c k x).2.2 ∧ Out S w w' := by
  have hof := bof_any S g L c k A n cp x w h hL hk hB hn hc hcm
  have hsha := fun w' b0 hle => of_any A n cp x w' (Bs.out hB hA b0) hn hc hcm hle
  obtain ⟨Dd, hD32, hDv, hD1⟩ : ∃ Dd : List Value, Dd.length = 32 ∧ cbs (ofD x) = Dd ∧ Dd.toArray.all (·.oneCell') = true := ⟨cbs (ofD x), by rw [cbs_length]; unfold ofD; split; exact dlen x; rfl, rfl, cbs_one' _⟩
  rw [hDv] at hof
  have Hof := Lib.hid hof
  have Hb := Lib.hid (And.intro h (And.intro hB (And.intro hn (And.intro hc (And.intro hcm (And.intro hD32 (And.intro hDv hD1)))))))
  have Hsha := Lib.hid hsha
  have hlt := Lib.hid (fun i hi => h.lt (i := i) hi)
  clear h hB hn hc hcm hD32 hDv hD1 hof hsha
  go_enter Try.func23, Try.ntmps23
  go_wp2_with fail
  refine Hof.out.mono ?_
  rintro e w1 ⟨rfl, hBk1, hO1⟩
  have hs1 := hO1.size
  have hsD : Dd.toArray.size = 32 := by rw [List.size_toArray]; exact Hb.out.2.2.2.2.2.1
  have hdB : Blk (w1.alloc (.cells (cbs (List.replicate 32 0)).toArray 28)) w1.heap.size 28 (cbs (List.replicate 32 0)) := Blk.new rfl rfl
  have hth : (w1.alloc (.cells (cbs (List.replicate 32 0)).toArray 28)).there w1.heap.size 0 Dd.toArray.size := by
    have e := hdB.there
    rw [cbs_length, List.length_replicate] at e
    rw [hsD]; exact e
  have hi : (Try.prog.info? 28).map (·.size) = some Dd.toArray.size := by rw [hsD]; exact info32b
  have hdS := hdB.setAll (vs := Dd) (by rw [Hb.out.2.2.2.2.2.1, cbs_length, List.length_replicate])
  have hbS : Below w1.heap.size w1 ((w1.alloc (.cells (cbs (List.replicate 32 0)).toArray 28)).setCells w1.heap.size 0 Dd) := Below.setCells (by omega) _ ((Below.refl _ _).alloc (Nat.le_refl _) _)
  obtain ⟨wS, hwS⟩ : ∃ wS, (w1.alloc (.cells (cbs (List.replicate 32 0)).toArray 28)).setCells w1.heap.size 0 Dd = wS := ⟨_, rfl⟩
  rw [hwS] at hdS hbS
  have Hth := Lib.hid hth
  have Hi := Lib.hid hi
  have Hd := Lib.hid (And.intro hdS (And.intro hbS (And.intro hBk1 hO1)))
  have HwS := Lib.hid hwS
  clear hsD hdB hth hi hdS hbS hwS hBk1 hO1
  by_cases hle : x.length ≤ 65536
  · have e2 : ofD x = digest x := if_pos hle
    have e3 : ofE x = 0 := if_pos hle
    rw [e3]
    go_wp2_with (refine wpList_store_mid rfl 28 _ _ rfl w1.heap.size 0 Dd.toArray rfl rfl Hth.out Hi.out Hb.out.2.2.2.2.2.2.2 ?_; simp only [Act.put]; refine cast (congrArg (fun z => wpList _ _ _ _ _ z) HwS.out.symm) ?_)
    have r0 : wS.drew.rangeAt w1.heap.size 0 Dd := Hd.out.1.range
    have hid : (Try.prog.info? 28).map (·.size) = some Dd.length := by rw [Hb.out.2.2.2.2.2.1]; exact info32b
    have hud := Try.underlying28
    have hsh := Hsha.out wS.drew ((Hd.out.2.2.2.then_below Hd.out.2.1).drewN 1) (by have := Hb.out.2.2.1; omega)
    have heq := eq_same Dd x (by rw [← Hb.out.2.2.2.2.2.2.1, e2])
    rw [← e2, Hb.out.2.2.2.2.2.2.1] at hsh
    have Hsh := Lib.hid hsh
    clear hsh
    go_region_held3 (fun W' => W'.rangeAt w1.heap.size 0 Dd) (first | with_reducible exact r0 | with_reducible exact r2)
      (first
      | (go_at_call 18; refine Hsh.out.mono ?_; rintro e w2 ⟨rfl, hb2⟩; have r2 := range_below hb2 r0))
    have hb3 : Below w1.heap.size w1 w2 := (Hd.out.2.1.drew).trans (hb2.mono Hd.out.2.1.size)
    have Hfin := Lib.hid (And.intro (Hd.out.2.2.1.later hb3) (Hd.out.2.2.2.then_below hb3))
    go_wp2
    go_ret
    exact ⟨ret_bool (by simp [hle]), Hfin.out⟩
  · have e2 : ofD x = List.replicate 32 0 := if_neg hle
    have e3 : ofE x = 5 := if_neg hle
    rw [e3]
    go_wp2_with (refine wpList_store_mid rfl 28 _ _ rfl w1.heap.size 0 Dd.toArray rfl rfl Hth.out Hi.out Hb.out.2.2.2.2.2.2.2 ?_; simp only [Act.put]; refine cast (congrArg (fun z => wpList _ _ _ _ _ z) HwS.out.symm) ?_)
    have Hfin := Lib.hid (fun q => And.intro (Hd.out.2.2.1.later (below_drewN Hd.out.2.1 q)) (Hd.out.2.2.2.then_below (below_drewN Hd.out.2.1 q)))
    go_quiet (fail)
    go_wp2
    go_ret
    exact ⟨ret_bool (by simp [hle]), Hfin.out _⟩
end Go.Proofs.Ytcidliakmlolmaa
