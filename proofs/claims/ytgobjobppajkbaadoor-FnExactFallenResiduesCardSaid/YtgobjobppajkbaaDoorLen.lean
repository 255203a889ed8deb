/-
  IS IT A LENGTH? Of both.
-/
import Derived.Test.YtgobjobppajkbaaDoorNumB
namespace Go.Proofs.YtgobjobppajkbaaDoor
open Go.RowKit
set_option linter.unusedVariables false

theorem isLength_any (k : Int) (w : World) :
    Calls Tryd.prog 110 #[.int .i64 k] w fun e w' => e = .returned (.bool (inB k 0 15)) ∧ w = w' := by
  by_cases h1 : 0 ≤ k <;> by_cases h2 : k ≤ 15
  all_goals
    go_enter Tryd.func110, Tryd.ntmps110
    go_wp2
    go_ret
    simp [inB, *]
end Go.Proofs.YtgobjobppajkbaaDoor
