/-
  For all crews c, low marks low and calls l (100 at most are looked at): what marks answer, call by call, is what the document's marks answer; MarksPlays returns true; no condition.
-/
import Derived.Test.YtenccpccpjjkmaaZ18
namespace Go.Proofs.Ytenccpccpjjkmaa.marksPlays
open Go.ChangeShapes Go.WideShapes Go.ChangeAt Go.RowKit Go.Maps Go.Shelf Go.Sort CrewP
set_option linter.unusedVariables false

theorem walk (fc : Int) (Ac : Option Addr) (nc cc : Nat) (c : List Int) (low : Mk) (Al : Option Addr) (nl cl : Nat) (l : List DoM) (w : World) (hc : ArgC w fc Ac nc cc c) (hl : ArgDm w Al nl cl l) :
    Calls Try.prog 3 #[.agg #[.int .i64 fc, .slice Ac nc cc], .agg (mkC low).toArray, .slice Al nl cl] w fun e w' => e = .returned (.bool true) ∧ Below w.heap.size w w' := plays fc Ac nc cc c low Al nl cl l w hc hl
end Go.Proofs.Ytenccpccpjjkmaa.marksPlays
