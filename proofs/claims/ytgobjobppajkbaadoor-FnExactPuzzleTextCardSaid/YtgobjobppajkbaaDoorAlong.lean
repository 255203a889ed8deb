/-
  'along': the closure that a walk is ranged over by.
-/
import Derived.Test.YtgobjobppajkbaaDoorIter
namespace Go.Proofs.YtgobjobppajkbaaDoor
open Go.RowKit Go.Shelf
set_option linter.unusedVariables false

end Go.Proofs.YtgobjobppajkbaaDoor
