/-
  'cyTurn' of the model: what stands from the least number on, and behind it what stands ahead.
-/
import Derived.Test.YteghjcbhkhbncaaTurnC
import Derived.Deep.RegionLaw
import Derived.Test.YteghjcbhkhbncaaPartA
namespace Go.Proofs.Yteghjcbhkhbncaa
open Go.RowKit
set_option linter.unusedVariables false

end Go.Proofs.Yteghjcbhkhbncaa
