/-
  'remainderOf' of the program.
-/
import Derived.Test.YtkikmmnmppikpaaLeaf
import Derived.Test.YtkikmmnmppikpaaOmM
namespace Go.Proofs.Ytkikmmnmppikpaa
open Go.RowKit
set_option linter.unusedVariables false

end Go.Proofs.Ytkikmmnmppikpaa
