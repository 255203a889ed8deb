/-
  'CycleOf', 'LeadOf', 'IsOnCycle' of the model.
-/
import Derived.Test.YtjcpdlamgjpmmaeCyc
namespace Go.Proofs.Ytjcpdlamgjpmmae
open Go.RowKit
set_option linter.unusedVariables false

end Go.Proofs.Ytjcpdlamgjpmmae
