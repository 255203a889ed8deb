/-
  'valueOf', 'isFitBy' of the program.
-/
import Derived.Test.YtgobjobppajkbaaDoorPzV
import Derived.Test.YtgobjobppajkbaaDoorNum
import Derived.Deep.RegionWith
namespace Go.Proofs.YtgobjobppajkbaaDoor
open Go.RowKit
set_option linter.unusedVariables false

theorem ret_two' {x : Int × Bool} {a : Int} {b : Bool} (h : x = (a, b)) : Ending.returned (.tuple #[.int .i64 x.1, .bool x.2]) = .returned (.tuple #[.int .i64 a, .bool b]) := by rw [h]
theorem max_abs (x : Int) : max x (-x) = absI x := by unfold absI; split <;> omega

end Go.Proofs.YtgobjobppajkbaaDoor
