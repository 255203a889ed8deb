/-
  ARE THERE A MAP AND A WORD: 'woAsked' of the model.
-/
import Derived.Test.YtgobjobppajkbaaDoorWordG
namespace Go.Proofs.YtgobjobppajkbaaDoor
open Go.RowKit
set_option linter.unusedVariables false

/-- Are there a map and a word? -/
def askW (t p : Int) (s : ByteArray) : Bool := goodB t p && wordB s
theorem askW_iff {t p : Int} {s : ByteArray} : askW t p s = true ↔ goodB t p = true ∧ wordB s = true := by unfold askW; rw [Bool.and_eq_true]
end Go.Proofs.YtgobjobppajkbaaDoor
