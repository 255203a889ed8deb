/-
  IS IT A LENGTH? Of both.
-/
import Derived.Test.YtbepnhgekbcbjaaDoorNumB
namespace Go.Proofs.YtbepnhgekbcbjaaDoor
open Go.RowKit
set_option linter.unusedVariables false

end Go.Proofs.YtbepnhgekbcbjaaDoor
