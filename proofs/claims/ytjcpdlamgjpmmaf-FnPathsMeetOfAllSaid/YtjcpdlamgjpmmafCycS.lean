/-
  'CycleOf', 'LeadOf', 'IsOnCycle' of the model.
-/
import Derived.Test.YtjcpdlamgjpmmafCyc
namespace Go.Proofs.Ytjcpdlamgjpmmaf
open Go.RowKit
set_option linter.unusedVariables false

end Go.Proofs.Ytjcpdlamgjpmmaf
