/-
  'mpOdd' of the model, 'OddPart' of both.
-/
import Derived.Test.YtnhpoefhcngoaaaDoorLeaf
namespace Go.Proofs.YtnhpoefhcngoaaaDoor
open Go.RowKit
set_option linter.unusedVariables false

theorem half_even {c : Int} (h : c % 2 = 0) : c.tdiv 2 = c / 2 := by rw [Int.tdiv_eq_ediv]; split <;> omega

/-- The odd part of a number, how often it is halved, and whether there is one. -/
def odp (n : Int) : Int × Int × Bool := if n ≠ 0 ∧ numB n = true then ((hlv n).1, ((hlv n).2 : Int), true) else (0, 0, false)

end Go.Proofs.YtnhpoefhcngoaaaDoor
