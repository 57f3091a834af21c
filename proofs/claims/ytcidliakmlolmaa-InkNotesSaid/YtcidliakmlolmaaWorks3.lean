/-
  The statements' own helpers: works.
-/
import Derived.Test.YtcidliakmlolmaaNoted
namespace Go.Proofs.Ytcidliakmlolmaa
open Go.RowKit Go.Maps
set_option linter.unusedVariables false

theorem abc_noted : ofL [] false 0 [97, 98, 99] = ([[97, 98, 99]], false, 1) := by
  unfold ofL noteL
  rw [if_pos (by decide), if_neg (by decide), dig_abc]
  rfl
theorem abc_again : ofL [[97, 98, 99]] false 1 [97, 98, 99] = ([[97, 98, 99]], false, 2) := by
  unfold ofL noteL
  rw [if_pos (by decide), if_pos (by decide)]
theorem none_noted : ofL [[97, 98, 99]] false 2 [] = ([[97, 98, 99], []], false, 3) := by
  have e : grp (digest []) [[97, 98, 99]] = [] := by
    unfold grp
    rw [List.filter_cons_of_neg (by show ¬ ((digest [97, 98, 99] == digest []) = true); rw [dig_abc, dig_none]; decide), List.filter_nil]
  have e2 : (digest [] == List.replicate 32 0) = false := by rw [dig_none]; decide
  unfold ofL noteL
  rw [if_pos (by decide), if_neg (by decide), e, e2]
  rfl

theorem noted_abc (S : Nat → Prop) (g : Nat) (L : List (List UInt8)) (c : Bool) (k : Nat) (fr : Nat × Nat) (w1 : World) (hb : BookAt w1 S g L c k) (hL : L.length < 1000000) (hk : k < 1000000) :
    Calls Try.prog 23 #[.pointer (some ⟨g, 0, none⟩), .slice (some ⟨w1.heap.size, 0, none⟩) 3 3] (w1.alloc (.cells #[.int .u8 97, .int .u8 98, .int .u8 99] 5 fr)) fun e w' =>
      e = .returned (.bool true) ∧ ∃ S', (∀ i, S' i → S i ∨ w1.heap.size ≤ i) ∧ BookAt w' S' g (ofL L c k [97, 98, 99]).1 (ofL L c k [97, 98, 99]).2.1 (ofL L c k [97, 98, 99]).2.2 ∧ Out S w1 w' := by
  have hba : Below w1.heap.size w1 (w1.alloc (.cells #[.int .u8 97, .int .u8 98, .int .u8 99] 5 fr)) := (Below.refl _ _).alloc (Nat.le_refl _) _
  refine (noted_any S g L c k (some ⟨w1.heap.size, 0, none⟩) 3 3 [97, 98, 99] _ (hb.below hba) (fun _ a ha hs => ?_) hL hk (Bs.made w1 _ _ _ _ rfl) rfl (by decide) (by decide)).mono ?_
  · injection ha with ha
    subst ha
    exact Nat.lt_irrefl _ (hb.lt hs)
  · rintro e w' ⟨rfl, h1, h2⟩
    exact ⟨rfl, _, fun i hi => by
      rcases hi with hi | hi
      · exact .inl hi
      · exact .inr (by have := hi.1; simp at this; omega), h1, (Out.ofBelow S hba).trans h2 fun _ _ e => e⟩

theorem noted_nil (S : Nat → Prop) (g : Nat) (L : List (List UInt8)) (c : Bool) (k : Nat) (w1 : World) (hb : BookAt w1 S g L c k) (hL : L.length < 1000000) (hk : k < 1000000) :
    Calls Try.prog 23 #[.pointer (some ⟨g, 0, none⟩), .slice none 0 0] w1 fun e w' =>
      e = .returned (.bool true) ∧ ∃ S', (∀ i, S' i → S i ∨ w1.heap.size ≤ i) ∧ BookAt w' S' g (ofL L c k []).1 (ofL L c k []).2.1 (ofL L c k []).2.2 ∧ Out S w1 w' := by
  refine (noted_any S g L c k none 0 0 [] _ hb (fun hn => absurd rfl hn) hL hk (Bs.nil _ _) rfl (by decide) (by decide)).mono ?_
  rintro e w' ⟨rfl, h1, h2⟩
  exact ⟨rfl, _, fun i hi => by
      rcases hi with hi | hi
      · exact .inl hi
      · exact .inr hi.1, h1, h2⟩

set_option maxRecDepth 100000 in
set_option maxHeartbeats 800000 in
theorem works3_any (w : World) : Calls Try.prog 16 #[] w fun e w' => e = .returned (.bool true) ∧ Below w.heap.size w w' := by
  have kc := fun (w : World) (C : Array Value) (n c : Nat) => Lib.run_convert_bytes_const (P := Try.prog) w 32 5 C n c Try.underlying32 Try.underlying5
  go_enter Try.func16, Try.ntmps16
  go_wp2_with fail
  refine (bnew_any _).mono ?_
  rintro e w1 ⟨S, g, rfl, hS, hb, hb1⟩
  have Hb := Lib.hid (And.intro hS (And.intro hb hb1))
  clear hS hb hb1
  go_wp2_with fail
  refine (noted_abc S g _ _ _ _ w1 Hb.out.2.1 (by decide) (by decide)).mono ?_
  rintro e w2 ⟨rfl, S2, hS2, hk2, hO2⟩
  rw [abc_noted] at hk2
  have H2 := Lib.hid (And.intro (fun i hi => (by rcases hS2 i hi with h | h; exact Hb.out.1 i h; have := Hb.out.2.2.size; omega : w.heap.size ≤ i)) (And.intro hk2 (Hb.out.2.2.trans (hO2.above Hb.out.1 Hb.out.2.2.size))))
  clear hS2 hk2 hO2
  go_wp2_with fail
  refine (noted_abc S2 g _ _ _ _ w2 H2.out.2.1 (by decide) (by decide)).mono ?_
  rintro e w3 ⟨rfl, S3, hS3, hk3, hO3⟩
  rw [abc_again] at hk3
  have H3 := Lib.hid (And.intro (fun i hi => (by rcases hS3 i hi with h | h; exact H2.out.1 i h; have := H2.out.2.2.size; omega : w.heap.size ≤ i)) (And.intro hk3 (H2.out.2.2.trans (hO3.above H2.out.1 H2.out.2.2.size))))
  clear hS3 hk3 hO3
  go_wp2_with fail
  refine (noted_nil S3 g _ _ _ w3 H3.out.2.1 (by decide) (by decide)).mono ?_
  rintro e w4 ⟨rfl, S4, hS4, hk4, hO4⟩
  rw [none_noted] at hk4
  obtain ⟨m4, hbk4⟩ := hk4.blk
  have hlen := Lib.hid (blen_any g _ _ _ _ w4 hbk4)
  have hask := Lib.hid (basked_any S4 g _ _ _ w4 hk4 (by decide))
  have hcl := Lib.hid (bclash_any g _ _ _ _ w4 hbk4)
  have H4 := Lib.hid (H3.out.2.2.trans (hO4.above H3.out.1 H3.out.2.2.size))
  have hnot : ∀ (x : Bool) (w : World), (Op.unary .not (.bool x)).run Try.prog w = .ok (.bool (!x)) w := fun _ _ => rfl
  clear hS4 hk4 hO4 hbk4
  go_wp2_with (first
    | (go_at_call 10; refine hlen.out.mono ?_; rintro e w' ⟨rfl, rfl⟩)
    | (go_at_call 12; refine hask.out.mono ?_; rintro e w' ⟨rfl, rfl⟩)
    | (go_at_call 14; refine hcl.out.mono ?_; rintro e w' ⟨rfl, rfl⟩))
  go_ret
  exact ⟨rfl, H4.out⟩
end Go.Proofs.Ytcidliakmlolmaa
