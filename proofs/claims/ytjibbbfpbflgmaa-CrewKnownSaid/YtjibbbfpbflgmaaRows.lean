/-
  No cell of these rows narrows 'for every input' (looked for: loops, veiled, ifaces, maps, wideKeys, modest, calm, conditions, laid).
  DERIVED. THE GIVEN ROWS OF THIS SEAT. 13 by the template 'for every input the law returns true; each argument reads behind the call as it read before'; 0 by the template 'total and deterministic' (their statements: YtjibbbfpbflgmaaTotals.lean).
  GIVEN WITH THE SEED: the statements are not yours to turn. If you find one false, say at which input.
  Laid BY PROGRAM, IN A SANDBOX (cutbox-rows.mjs): the forced cells as the released guide's own fill.sh prints them over the translation 81fbb2d63170b391… (all of the seat's roots in one cut). By AI agents, Wed Nov 11 2026. No macro, syntax, notation, axiom, sorry.
-/
import Derived.Test.YtjibbbfpbflgmaaChecked
import GoSem.Claim
import GoSem.ClaimJoined
import GoSem.ClaimMapViews
import Derived.JoinedTies
import Derived.KernelRfl
namespace Go.Proofs.Ytjibbbfpbflgmaa
/- THE CELL 'sum', in the pinned program and in every row, IS THE sha256 OF THE DUMP (.gsa) THAT YtjibbbfpbflgmaaProg.lean LOADS. Nothing in Lean hashes anything: it is a label: what it is worth is what the hold of that sum in a sandbox is worth. -/
noncomputable def Try.pinned : Pinned := { name := "ytjibbbfpbflgmaa", sum := "81fbb2d63170b3914df201429366040cb9d5102326dfb16539f1a50172ba02fb", checked := Try.checked }
namespace Rows
def none {H : Type} : Left H := { results := [], args := [] }

/-- 'bastidelaw08.CrewMakes': WHATEVER THE INPUT: true; the input reads as it did. -/
def crewMakesSpec : ChangeSpec := { name := "crewMakes", fn := fun _ => fun
  | [d1, d2, d3] => { results := [.lit (.bool true)], args := [d1, d2, d3] }
  | _ => none }
def crewMakesRow : OpenClaim := { program := "ytjibbbfpbflgmaa", sum := "81fbb2d63170b3914df201429366040cb9d5102326dfb16539f1a50172ba02fb", func := "bastide/bastidelaw08.CrewMakes", spec := "crewMakes", inPlace := ["slices.overlaps[int]"], unfollowed := true, recurses := true, apart := false }
def CrewMakesSaid : Prop := crewMakesRow.holds Try.pinned (OpenSpec.ofChange crewMakesSpec)

/-- ITS FALSE NEIGHBOUR: 'it returns false'. Refute it at one input. -/
def crewMakesWrong : ChangeSpec := { name := "crewMakes", fn := fun _ => fun
  | [d1, d2, d3] => { results := [.lit (.bool false)], args := [d1, d2, d3] }
  | _ => none }
def CrewMakesWrongFalsely : Prop := crewMakesRow.holds Try.pinned (OpenSpec.ofChange crewMakesWrong)

/-- 'bastidelaw08.CrewTells': WHATEVER THE INPUT: true; the input reads as it did. -/
def crewTellsSpec : ChangeSpec := { name := "crewTells", fn := fun _ => fun
  | [d1, d2, d3] => { results := [.lit (.bool true)], args := [d1, d2, d3] }
  | _ => none }
def crewTellsRow : OpenClaim := { program := "ytjibbbfpbflgmaa", sum := "81fbb2d63170b3914df201429366040cb9d5102326dfb16539f1a50172ba02fb", func := "bastide/bastidelaw08.CrewTells", spec := "crewTells", inPlace := ["slices.overlaps[int]"], unfollowed := true, recurses := true, apart := false }
def CrewTellsSaid : Prop := crewTellsRow.holds Try.pinned (OpenSpec.ofChange crewTellsSpec)

/-- ITS FALSE NEIGHBOUR: 'it returns false'. Refute it at one input. -/
def crewTellsWrong : ChangeSpec := { name := "crewTells", fn := fun _ => fun
  | [d1, d2, d3] => { results := [.lit (.bool false)], args := [d1, d2, d3] }
  | _ => none }
def CrewTellsWrongFalsely : Prop := crewTellsRow.holds Try.pinned (OpenSpec.ofChange crewTellsWrong)

/-- 'bastidelaw08.CrewReplaces': WHATEVER THE INPUT: true; the input reads as it did. -/
def crewReplacesSpec : ChangeSpec := { name := "crewReplaces", fn := fun _ => fun
  | [d1, d2, d3] => { results := [.lit (.bool true)], args := [d1, d2, d3] }
  | _ => none }
def crewReplacesRow : OpenClaim := { program := "ytjibbbfpbflgmaa", sum := "81fbb2d63170b3914df201429366040cb9d5102326dfb16539f1a50172ba02fb", func := "bastide/bastidelaw08.CrewReplaces", spec := "crewReplaces", inPlace := ["slices.overlaps[int]"], unfollowed := true, recurses := true, apart := false }
def CrewReplacesSaid : Prop := crewReplacesRow.holds Try.pinned (OpenSpec.ofChange crewReplacesSpec)

/-- ITS FALSE NEIGHBOUR: 'it returns false'. Refute it at one input. -/
def crewReplacesWrong : ChangeSpec := { name := "crewReplaces", fn := fun _ => fun
  | [d1, d2, d3] => { results := [.lit (.bool false)], args := [d1, d2, d3] }
  | _ => none }
def CrewReplacesWrongFalsely : Prop := crewReplacesRow.holds Try.pinned (OpenSpec.ofChange crewReplacesWrong)

/-- 'bastidelaw08.CrewCounts': WHATEVER THE INPUT: true; the input reads as it did. -/
def crewCountsSpec : ChangeSpec := { name := "crewCounts", fn := fun _ => fun
  | [d1, d2, d3] => { results := [.lit (.bool true)], args := [d1, d2, d3] }
  | _ => none }
def crewCountsRow : OpenClaim := { program := "ytjibbbfpbflgmaa", sum := "81fbb2d63170b3914df201429366040cb9d5102326dfb16539f1a50172ba02fb", func := "bastide/bastidelaw08.CrewCounts", spec := "crewCounts", inPlace := ["slices.overlaps[int]"], unfollowed := true, recurses := true, apart := false }
def CrewCountsSaid : Prop := crewCountsRow.holds Try.pinned (OpenSpec.ofChange crewCountsSpec)

/-- ITS FALSE NEIGHBOUR: 'it returns false'. Refute it at one input. -/
def crewCountsWrong : ChangeSpec := { name := "crewCounts", fn := fun _ => fun
  | [d1, d2, d3] => { results := [.lit (.bool false)], args := [d1, d2, d3] }
  | _ => none }
def CrewCountsWrongFalsely : Prop := crewCountsRow.holds Try.pinned (OpenSpec.ofChange crewCountsWrong)

/-- 'bastidelaw08.CrewMeet': WHATEVER THE INPUT: true; the input reads as it did. -/
def crewMeetSpec : ChangeSpec := { name := "crewMeet", fn := fun _ => fun
  | [d1, d2, d3] => { results := [.lit (.bool true)], args := [d1, d2, d3] }
  | _ => none }
def crewMeetRow : OpenClaim := { program := "ytjibbbfpbflgmaa", sum := "81fbb2d63170b3914df201429366040cb9d5102326dfb16539f1a50172ba02fb", func := "bastide/bastidelaw08.CrewMeet", spec := "crewMeet", inPlace := ["slices.overlaps[int]"], unfollowed := true, recurses := true, apart := false }
def CrewMeetSaid : Prop := crewMeetRow.holds Try.pinned (OpenSpec.ofChange crewMeetSpec)

/-- ITS FALSE NEIGHBOUR: 'it returns false'. Refute it at one input. -/
def crewMeetWrong : ChangeSpec := { name := "crewMeet", fn := fun _ => fun
  | [d1, d2, d3] => { results := [.lit (.bool false)], args := [d1, d2, d3] }
  | _ => none }
def CrewMeetWrongFalsely : Prop := crewMeetRow.holds Try.pinned (OpenSpec.ofChange crewMeetWrong)

/-- 'bastidelaw08.CrewEnough': WHATEVER THE INPUT: true; the input reads as it did. -/
def crewEnoughSpec : ChangeSpec := { name := "crewEnough", fn := fun _ => fun
  | [d] => { results := [.lit (.bool true)], args := [d] }
  | _ => none }
def crewEnoughRow : OpenClaim := { program := "ytjibbbfpbflgmaa", sum := "81fbb2d63170b3914df201429366040cb9d5102326dfb16539f1a50172ba02fb", func := "bastide/bastidelaw08.CrewEnough", spec := "crewEnough", inPlace := ["slices.overlaps[int]"], unfollowed := true, recurses := true, apart := false }
def CrewEnoughSaid : Prop := crewEnoughRow.holds Try.pinned (OpenSpec.ofChange crewEnoughSpec)

/-- ITS FALSE NEIGHBOUR: 'it returns false'. Refute it at one input. -/
def crewEnoughWrong : ChangeSpec := { name := "crewEnough", fn := fun _ => fun
  | [d] => { results := [.lit (.bool false)], args := [d] }
  | _ => none }
def CrewEnoughWrongFalsely : Prop := crewEnoughRow.holds Try.pinned (OpenSpec.ofChange crewEnoughWrong)

/-- 'bastidelaw08.CrewNext': WHATEVER THE INPUT: true; the input reads as it did. -/
def crewNextSpec : ChangeSpec := { name := "crewNext", fn := fun _ => fun
  | [d1, d2, d3] => { results := [.lit (.bool true)], args := [d1, d2, d3] }
  | _ => none }
def crewNextRow : OpenClaim := { program := "ytjibbbfpbflgmaa", sum := "81fbb2d63170b3914df201429366040cb9d5102326dfb16539f1a50172ba02fb", func := "bastide/bastidelaw08.CrewNext", spec := "crewNext", inPlace := ["slices.overlaps[int]"], unfollowed := true, recurses := true, apart := false }
def CrewNextSaid : Prop := crewNextRow.holds Try.pinned (OpenSpec.ofChange crewNextSpec)

/-- ITS FALSE NEIGHBOUR: 'it returns false'. Refute it at one input. -/
def crewNextWrong : ChangeSpec := { name := "crewNext", fn := fun _ => fun
  | [d1, d2, d3] => { results := [.lit (.bool false)], args := [d1, d2, d3] }
  | _ => none }
def CrewNextWrongFalsely : Prop := crewNextRow.holds Try.pinned (OpenSpec.ofChange crewNextWrong)

/-- 'bastidelaw08.CrewTurns': WHATEVER THE INPUT: true; the input reads as it did. -/
def crewTurnsSpec : ChangeSpec := { name := "crewTurns", fn := fun _ => fun
  | [d1, d2] => { results := [.lit (.bool true)], args := [d1, d2] }
  | _ => none }
def crewTurnsRow : OpenClaim := { program := "ytjibbbfpbflgmaa", sum := "81fbb2d63170b3914df201429366040cb9d5102326dfb16539f1a50172ba02fb", func := "bastide/bastidelaw08.CrewTurns", spec := "crewTurns", inPlace := ["slices.overlaps[int]"], unfollowed := true, recurses := true, apart := false }
def CrewTurnsSaid : Prop := crewTurnsRow.holds Try.pinned (OpenSpec.ofChange crewTurnsSpec)

/-- ITS FALSE NEIGHBOUR: 'it returns false'. Refute it at one input. -/
def crewTurnsWrong : ChangeSpec := { name := "crewTurns", fn := fun _ => fun
  | [d1, d2] => { results := [.lit (.bool false)], args := [d1, d2] }
  | _ => none }
def CrewTurnsWrongFalsely : Prop := crewTurnsRow.holds Try.pinned (OpenSpec.ofChange crewTurnsWrong)

/-- 'bastidelaw08.CrewThere': WHATEVER THE INPUT: true; the input reads as it did. -/
def crewThereSpec : ChangeSpec := { name := "crewThere", fn := fun _ => fun
  | [d1, d2, d3] => { results := [.lit (.bool true)], args := [d1, d2, d3] }
  | _ => none }
def crewThereRow : OpenClaim := { program := "ytjibbbfpbflgmaa", sum := "81fbb2d63170b3914df201429366040cb9d5102326dfb16539f1a50172ba02fb", func := "bastide/bastidelaw08.CrewThere", spec := "crewThere", inPlace := ["slices.overlaps[int]"], unfollowed := true, recurses := true, apart := false }
def CrewThereSaid : Prop := crewThereRow.holds Try.pinned (OpenSpec.ofChange crewThereSpec)

/-- ITS FALSE NEIGHBOUR: 'it returns false'. Refute it at one input. -/
def crewThereWrong : ChangeSpec := { name := "crewThere", fn := fun _ => fun
  | [d1, d2, d3] => { results := [.lit (.bool false)], args := [d1, d2, d3] }
  | _ => none }
def CrewThereWrongFalsely : Prop := crewThereRow.holds Try.pinned (OpenSpec.ofChange crewThereWrong)

/-- 'bastidelaw08.CrewMade': WHATEVER THE INPUT: true; the input reads as it did. -/
def crewMadeSpec : ChangeSpec := { name := "crewMade", fn := fun _ => fun
  | [d1, d2] => { results := [.lit (.bool true)], args := [d1, d2] }
  | _ => none }
def crewMadeRow : OpenClaim := { program := "ytjibbbfpbflgmaa", sum := "81fbb2d63170b3914df201429366040cb9d5102326dfb16539f1a50172ba02fb", func := "bastide/bastidelaw08.CrewMade", spec := "crewMade", inPlace := ["slices.overlaps[int]"], unfollowed := true, recurses := true, apart := false }
def CrewMadeSaid : Prop := crewMadeRow.holds Try.pinned (OpenSpec.ofChange crewMadeSpec)

/-- ITS FALSE NEIGHBOUR: 'it returns false'. Refute it at one input. -/
def crewMadeWrong : ChangeSpec := { name := "crewMade", fn := fun _ => fun
  | [d1, d2] => { results := [.lit (.bool false)], args := [d1, d2] }
  | _ => none }
def CrewMadeWrongFalsely : Prop := crewMadeRow.holds Try.pinned (OpenSpec.ofChange crewMadeWrong)

/-- 'bastidelaw08.CrewRanked': WHATEVER THE INPUT: true; the input reads as it did. -/
def crewRankedSpec : ChangeSpec := { name := "crewRanked", fn := fun _ => fun
  | [d1, d2, d3] => { results := [.lit (.bool true)], args := [d1, d2, d3] }
  | _ => none }
def crewRankedRow : OpenClaim := { program := "ytjibbbfpbflgmaa", sum := "81fbb2d63170b3914df201429366040cb9d5102326dfb16539f1a50172ba02fb", func := "bastide/bastidelaw08.CrewRanked", spec := "crewRanked", inPlace := ["slices.overlaps[int]"], unfollowed := true, recurses := true, apart := false }
def CrewRankedSaid : Prop := crewRankedRow.holds Try.pinned (OpenSpec.ofChange crewRankedSpec)

/-- ITS FALSE NEIGHBOUR: 'it returns false'. Refute it at one input. -/
def crewRankedWrong : ChangeSpec := { name := "crewRanked", fn := fun _ => fun
  | [d1, d2, d3] => { results := [.lit (.bool false)], args := [d1, d2, d3] }
  | _ => none }
def CrewRankedWrongFalsely : Prop := crewRankedRow.holds Try.pinned (OpenSpec.ofChange crewRankedWrong)

/-- 'bastidelaw08.CrewRises': WHATEVER THE INPUT: true; the input reads as it did. -/
def crewRisesSpec : ChangeSpec := { name := "crewRises", fn := fun _ => fun
  | [d1, d2, d3] => { results := [.lit (.bool true)], args := [d1, d2, d3] }
  | _ => none }
def crewRisesRow : OpenClaim := { program := "ytjibbbfpbflgmaa", sum := "81fbb2d63170b3914df201429366040cb9d5102326dfb16539f1a50172ba02fb", func := "bastide/bastidelaw08.CrewRises", spec := "crewRises", inPlace := ["slices.overlaps[int]"], unfollowed := true, recurses := true, apart := false }
def CrewRisesSaid : Prop := crewRisesRow.holds Try.pinned (OpenSpec.ofChange crewRisesSpec)

/-- ITS FALSE NEIGHBOUR: 'it returns false'. Refute it at one input. -/
def crewRisesWrong : ChangeSpec := { name := "crewRises", fn := fun _ => fun
  | [d1, d2, d3] => { results := [.lit (.bool false)], args := [d1, d2, d3] }
  | _ => none }
def CrewRisesWrongFalsely : Prop := crewRisesRow.holds Try.pinned (OpenSpec.ofChange crewRisesWrong)

/-- 'bastidelaw08.CrewKnown': WHATEVER THE INPUT: true; the input reads as it did. -/
def crewKnownSpec : ChangeSpec := { name := "crewKnown", fn := fun _ => fun
  | [] => { results := [.lit (.bool true)], args := [] }
  | _ => none }
def crewKnownRow : OpenClaim := { program := "ytjibbbfpbflgmaa", sum := "81fbb2d63170b3914df201429366040cb9d5102326dfb16539f1a50172ba02fb", func := "bastide/bastidelaw08.CrewKnown", spec := "crewKnown", inPlace := ["slices.overlaps[int]"], unfollowed := true, recurses := true, apart := false }
def CrewKnownSaid : Prop := crewKnownRow.holds Try.pinned (OpenSpec.ofChange crewKnownSpec)

/-- ITS FALSE NEIGHBOUR: 'it returns false'. Refute it at one input. -/
def crewKnownWrong : ChangeSpec := { name := "crewKnown", fn := fun _ => fun
  | [] => { results := [.lit (.bool false)], args := [] }
  | _ => none }
def CrewKnownWrongFalsely : Prop := crewKnownRow.holds Try.pinned (OpenSpec.ofChange crewKnownWrong)

/- THE SECOND FORM. 'bulk': how many values and letters a reading holds, each counted each time it is reached (what is shared counts as often as it is met; a slice's spare places count too). A statement '..UptoSaid' is the law's where the arguments, and the package variables that the reading takes, are together of bulk at most 1048576: NARROWER than '..Said'. Prove '..Said' where nothing that the law and all that it calls make is longer than what came in: it says more and counts as full. Else prove '..UptoSaid'. A law counts once. -/
mutual
def uptoBulk {H : Type} : DataW H → Nat
  | .lit (.string bytes) => bytes.length + 1
  | .lit _ => 1
  | .nil => 1
  | .ptr d => uptoBulk d + 1
  | .slice elems spare => uptoBulkAll elems + uptoBulkAll spare + 1
  | .agg parts => uptoBulkAll parts + 1
  | .iface _ d => uptoBulk d + 1
  | .map entries => uptoBulkEntries entries + 1
  | .held _ => 1
def uptoBulkAll {H : Type} : List (DataW H) → Nat
  | [] => 0
  | d :: r => uptoBulk d + uptoBulkAll r
def uptoBulkEntries {H : Type} : List (Lit × DataW H) → Nat
  | [] => 0
  | x :: r => uptoBulkEntry x + uptoBulkEntries r
def uptoBulkEntry {H : Type} : Lit × DataW H → Nat
  | (.string bytes, d) => bytes.length + uptoBulk d + 1
  | (_, d) => uptoBulk d + 1
 end
def uptoSmall : (H : Type) → List (DataW H) → Bool := fun _ ds => decide (uptoBulkAll ds ≤ 1048576)
def OpenSpec.upto (s : _root_.Go.ChangeSpec) : _root_.Go.OpenSpec := { _root_.Go.OpenSpec.ofChange s with cond := some uptoSmall }

/-- 'bastidelaw08.CrewMakes', WHERE WHAT IT READS IS OF BULK AT MOST 1048576: true; the input reads as it did. -/
def crewMakesUptoRow : OpenClaim := { program := "ytjibbbfpbflgmaa", sum := "81fbb2d63170b3914df201429366040cb9d5102326dfb16539f1a50172ba02fb", func := "bastide/bastidelaw08.CrewMakes", spec := "crewMakes", inPlace := ["slices.overlaps[int]"], unfollowed := true, recurses := true, apart := false, narrowed := true }
def CrewMakesUptoSaid : Prop := crewMakesUptoRow.holds Try.pinned (OpenSpec.upto crewMakesSpec)

/-- 'bastidelaw08.CrewTells', WHERE WHAT IT READS IS OF BULK AT MOST 1048576: true; the input reads as it did. -/
def crewTellsUptoRow : OpenClaim := { program := "ytjibbbfpbflgmaa", sum := "81fbb2d63170b3914df201429366040cb9d5102326dfb16539f1a50172ba02fb", func := "bastide/bastidelaw08.CrewTells", spec := "crewTells", inPlace := ["slices.overlaps[int]"], unfollowed := true, recurses := true, apart := false, narrowed := true }
def CrewTellsUptoSaid : Prop := crewTellsUptoRow.holds Try.pinned (OpenSpec.upto crewTellsSpec)

/-- 'bastidelaw08.CrewReplaces', WHERE WHAT IT READS IS OF BULK AT MOST 1048576: true; the input reads as it did. -/
def crewReplacesUptoRow : OpenClaim := { program := "ytjibbbfpbflgmaa", sum := "81fbb2d63170b3914df201429366040cb9d5102326dfb16539f1a50172ba02fb", func := "bastide/bastidelaw08.CrewReplaces", spec := "crewReplaces", inPlace := ["slices.overlaps[int]"], unfollowed := true, recurses := true, apart := false, narrowed := true }
def CrewReplacesUptoSaid : Prop := crewReplacesUptoRow.holds Try.pinned (OpenSpec.upto crewReplacesSpec)

/-- 'bastidelaw08.CrewCounts', WHERE WHAT IT READS IS OF BULK AT MOST 1048576: true; the input reads as it did. -/
def crewCountsUptoRow : OpenClaim := { program := "ytjibbbfpbflgmaa", sum := "81fbb2d63170b3914df201429366040cb9d5102326dfb16539f1a50172ba02fb", func := "bastide/bastidelaw08.CrewCounts", spec := "crewCounts", inPlace := ["slices.overlaps[int]"], unfollowed := true, recurses := true, apart := false, narrowed := true }
def CrewCountsUptoSaid : Prop := crewCountsUptoRow.holds Try.pinned (OpenSpec.upto crewCountsSpec)

/-- 'bastidelaw08.CrewMeet', WHERE WHAT IT READS IS OF BULK AT MOST 1048576: true; the input reads as it did. -/
def crewMeetUptoRow : OpenClaim := { program := "ytjibbbfpbflgmaa", sum := "81fbb2d63170b3914df201429366040cb9d5102326dfb16539f1a50172ba02fb", func := "bastide/bastidelaw08.CrewMeet", spec := "crewMeet", inPlace := ["slices.overlaps[int]"], unfollowed := true, recurses := true, apart := false, narrowed := true }
def CrewMeetUptoSaid : Prop := crewMeetUptoRow.holds Try.pinned (OpenSpec.upto crewMeetSpec)

/-- 'bastidelaw08.CrewEnough', WHERE WHAT IT READS IS OF BULK AT MOST 1048576: true; the input reads as it did. -/
def crewEnoughUptoRow : OpenClaim := { program := "ytjibbbfpbflgmaa", sum := "81fbb2d63170b3914df201429366040cb9d5102326dfb16539f1a50172ba02fb", func := "bastide/bastidelaw08.CrewEnough", spec := "crewEnough", inPlace := ["slices.overlaps[int]"], unfollowed := true, recurses := true, apart := false, narrowed := true }
def CrewEnoughUptoSaid : Prop := crewEnoughUptoRow.holds Try.pinned (OpenSpec.upto crewEnoughSpec)

/-- 'bastidelaw08.CrewNext', WHERE WHAT IT READS IS OF BULK AT MOST 1048576: true; the input reads as it did. -/
def crewNextUptoRow : OpenClaim := { program := "ytjibbbfpbflgmaa", sum := "81fbb2d63170b3914df201429366040cb9d5102326dfb16539f1a50172ba02fb", func := "bastide/bastidelaw08.CrewNext", spec := "crewNext", inPlace := ["slices.overlaps[int]"], unfollowed := true, recurses := true, apart := false, narrowed := true }
def CrewNextUptoSaid : Prop := crewNextUptoRow.holds Try.pinned (OpenSpec.upto crewNextSpec)

/-- 'bastidelaw08.CrewTurns', WHERE WHAT IT READS IS OF BULK AT MOST 1048576: true; the input reads as it did. -/
def crewTurnsUptoRow : OpenClaim := { program := "ytjibbbfpbflgmaa", sum := "81fbb2d63170b3914df201429366040cb9d5102326dfb16539f1a50172ba02fb", func := "bastide/bastidelaw08.CrewTurns", spec := "crewTurns", inPlace := ["slices.overlaps[int]"], unfollowed := true, recurses := true, apart := false, narrowed := true }
def CrewTurnsUptoSaid : Prop := crewTurnsUptoRow.holds Try.pinned (OpenSpec.upto crewTurnsSpec)

/-- 'bastidelaw08.CrewThere', WHERE WHAT IT READS IS OF BULK AT MOST 1048576: true; the input reads as it did. -/
def crewThereUptoRow : OpenClaim := { program := "ytjibbbfpbflgmaa", sum := "81fbb2d63170b3914df201429366040cb9d5102326dfb16539f1a50172ba02fb", func := "bastide/bastidelaw08.CrewThere", spec := "crewThere", inPlace := ["slices.overlaps[int]"], unfollowed := true, recurses := true, apart := false, narrowed := true }
def CrewThereUptoSaid : Prop := crewThereUptoRow.holds Try.pinned (OpenSpec.upto crewThereSpec)

/-- 'bastidelaw08.CrewMade', WHERE WHAT IT READS IS OF BULK AT MOST 1048576: true; the input reads as it did. -/
def crewMadeUptoRow : OpenClaim := { program := "ytjibbbfpbflgmaa", sum := "81fbb2d63170b3914df201429366040cb9d5102326dfb16539f1a50172ba02fb", func := "bastide/bastidelaw08.CrewMade", spec := "crewMade", inPlace := ["slices.overlaps[int]"], unfollowed := true, recurses := true, apart := false, narrowed := true }
def CrewMadeUptoSaid : Prop := crewMadeUptoRow.holds Try.pinned (OpenSpec.upto crewMadeSpec)

/-- 'bastidelaw08.CrewRanked', WHERE WHAT IT READS IS OF BULK AT MOST 1048576: true; the input reads as it did. -/
def crewRankedUptoRow : OpenClaim := { program := "ytjibbbfpbflgmaa", sum := "81fbb2d63170b3914df201429366040cb9d5102326dfb16539f1a50172ba02fb", func := "bastide/bastidelaw08.CrewRanked", spec := "crewRanked", inPlace := ["slices.overlaps[int]"], unfollowed := true, recurses := true, apart := false, narrowed := true }
def CrewRankedUptoSaid : Prop := crewRankedUptoRow.holds Try.pinned (OpenSpec.upto crewRankedSpec)

/-- 'bastidelaw08.CrewRises', WHERE WHAT IT READS IS OF BULK AT MOST 1048576: true; the input reads as it did. -/
def crewRisesUptoRow : OpenClaim := { program := "ytjibbbfpbflgmaa", sum := "81fbb2d63170b3914df201429366040cb9d5102326dfb16539f1a50172ba02fb", func := "bastide/bastidelaw08.CrewRises", spec := "crewRises", inPlace := ["slices.overlaps[int]"], unfollowed := true, recurses := true, apart := false, narrowed := true }
def CrewRisesUptoSaid : Prop := crewRisesUptoRow.holds Try.pinned (OpenSpec.upto crewRisesSpec)

/-- 'bastidelaw08.CrewKnown', WHERE WHAT IT READS IS OF BULK AT MOST 1048576: true; the input reads as it did. -/
def crewKnownUptoRow : OpenClaim := { program := "ytjibbbfpbflgmaa", sum := "81fbb2d63170b3914df201429366040cb9d5102326dfb16539f1a50172ba02fb", func := "bastide/bastidelaw08.CrewKnown", spec := "crewKnown", inPlace := ["slices.overlaps[int]"], unfollowed := true, recurses := true, apart := false, narrowed := true }
def CrewKnownUptoSaid : Prop := crewKnownUptoRow.holds Try.pinned (OpenSpec.upto crewKnownSpec)

end Rows
end Go.Proofs.Ytjibbbfpbflgmaa
