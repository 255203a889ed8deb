/-
  'OddBefore' of both.
-/
import Derived.Test.YtjcpdlamgjpmmaaTreeB
namespace Go.Proofs.Ytjcpdlamgjpmmaa
open Go.RowKit
set_option linter.unusedVariables false

/-- Are there a map and a number? -/
def askN (t p n : Int) : Bool := goodB t p && numB n
/-- The odd number before n, if it is asked well. -/
def obO (t p n : Int) : Option Int := if askN t p n = true then oddBf t p n else none
theorem numB_wide {n : Int} (h : numB n = true) : -100000000000000 ≤ n ∧ n ≤ 100000000000000 := by have := numB_iff.1 h; omega
end Go.Proofs.Ytjcpdlamgjpmmaa
