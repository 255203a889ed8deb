/-
  'FallOfResidue' of both.
-/
import Derived.Test.YtgobjobppajkbaaDoorFb
import Derived.Test.YtgobjobppajkbaaDoorRsf
import Derived.Test.YtgobjobppajkbaaDoorRsp
namespace Go.Proofs.YtgobjobppajkbaaDoor
open Go.RowKit
set_option linter.unusedVariables false

theorem isPower_any (k : Int) (w : World) :
    Calls Tryd.prog 38 #[.int .i64 k] w fun e w' => e = .returned (.bool (inB k 0 12)) ∧ w = w' := by
  by_cases h1 : 0 ≤ k <;> by_cases h2 : k ≤ 12
  all_goals
    go_enter Tryd.func38, Tryd.ntmps38
    go_wp2
    go_ret
    simp [inB, *]
/-- What FallOfResidue comes to. -/
def fao (t p r k : Int) : Int × Bool := if (goodB t p && inB k 0 12) = true ∧ 0 ≤ r ∧ r < 2 ^ k.toNat then (((fa t p r k.toNat : Nat) : Int), decide (fa t p r k.toNat ≠ 0)) else (0, false)

end Go.Proofs.YtgobjobppajkbaaDoor
