/-
  WHAT THE LAWS DO TO A SLICE OF INTEGERS: it is held against another, marked, and read again.
-/
import Derived.Test.YtebbafapcknllaaIntRows
import Derived.Test.YtebbafapcknllaaTouch
import Derived.WalkSmall
namespace Go.Proofs.Ytebbafapcknllaa
open Go.RowKit
set_option linter.unusedVariables false

/-- The numbers 1, 2, .. in a row. -/
def marked (L : Nat) : List Int := (List.range L).map fun (i : Nat) => (i : Int) + 1

end Go.Proofs.Ytebbafapcknllaa
