/-
  THE ITERATOR OF A WALK, BY SHORT STEPS: it gives 0, 1, 2, .. and the number behind so many short steps, till 1000, or till what is no number.
-/
import Derived.Test.YtgobjobppajkbaaDoorIter
import Derived.Test.YtgobjobppajkbaaDoorLeaf2
namespace Go.Proofs.YtgobjobppajkbaaDoor
open Go.RowKit Go.Shelf
attribute [local go_sem] Oper.semAt_some
set_option linter.unusedVariables false

end Go.Proofs.YtgobjobppajkbaaDoor
