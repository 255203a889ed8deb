/-
  'cyTurn' of the model: what stands from the least number on, and behind it what stands ahead.
-/
import Derived.Test.YtjcpdlamgjpmmafTurnC
import Derived.Deep.RegionLaw
import Derived.Test.YtjcpdlamgjpmmafPartA
namespace Go.Proofs.Ytjcpdlamgjpmmaf
open Go.RowKit
set_option linter.unusedVariables false

end Go.Proofs.Ytjcpdlamgjpmmaf
