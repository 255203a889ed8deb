/-
  'NumberAfter' of the model, and its law.
-/
import Derived.Test.YtmocbkpfoddffaaDoorYes
import Derived.Test.YtmocbkpfoddffaaDoorNum
namespace Go.Proofs.YtmocbkpfoddffaaDoor
open Go.RowKit Go.Shelf
set_option linter.unusedVariables false

end Go.Proofs.YtmocbkpfoddffaaDoor
