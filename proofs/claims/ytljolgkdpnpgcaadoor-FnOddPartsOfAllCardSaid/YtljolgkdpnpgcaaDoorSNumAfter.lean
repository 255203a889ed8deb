/-
  'NumberAfter' of the model, and its law.
-/
import Derived.Test.YtljolgkdpnpgcaaDoorYes
import Derived.Test.YtljolgkdpnpgcaaDoorNum
namespace Go.Proofs.YtljolgkdpnpgcaaDoor
open Go.RowKit Go.Shelf
set_option linter.unusedVariables false

end Go.Proofs.YtljolgkdpnpgcaaDoor
