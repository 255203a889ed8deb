/-
  'CycleOf', 'LeadOf', 'IsOnCycle' of the model.
-/
import Derived.Test.YteghjcbhkhbncaaCyc
namespace Go.Proofs.Yteghjcbhkhbncaa
open Go.RowKit
set_option linter.unusedVariables false

end Go.Proofs.Yteghjcbhkhbncaa
