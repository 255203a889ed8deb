/-
  'Concat' of two rows of clues, 'cluesWithout' of the program.
-/
import Derived.Test.YtkikmmnmppikpaaClR
namespace Go.Proofs.Ytkikmmnmppikpaa
open Go.RowKit
set_option linter.unusedVariables false

/-- The first r of some rows, one behind the other. -/
def accP (P : Nat → List Pt) : Nat → List Pt
  | 0 => []
  | r + 1 => accP P r ++ P r

end Go.Proofs.Ytkikmmnmppikpaa
