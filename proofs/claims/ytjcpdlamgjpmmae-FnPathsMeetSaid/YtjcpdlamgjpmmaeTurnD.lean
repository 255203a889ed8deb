/-
  'cyTurn' of the model: what stands from the least number on, and behind it what stands ahead.
-/
import Derived.Test.YtjcpdlamgjpmmaeTurnC
import Derived.Deep.RegionLaw
import Derived.Test.YtjcpdlamgjpmmaePartA
namespace Go.Proofs.Ytjcpdlamgjpmmae
open Go.RowKit
set_option linter.unusedVariables false

end Go.Proofs.Ytjcpdlamgjpmmae
