/-
  IS IT A LENGTH? Of both.
-/
import Derived.Test.YtencblbkbalmcaaDoorNumB
namespace Go.Proofs.YtencblbkbalmcaaDoor
open Go.RowKit
set_option linter.unusedVariables false

theorem isLength_any (k : Int) (w : World) :
    Calls Tryd.prog 41 #[.int .i64 k] w fun e w' => e = .returned (.bool (inB k 0 15)) ∧ w = w' := by
  by_cases h1 : 0 ≤ k <;> by_cases h2 : k ≤ 15
  all_goals
    go_enter Tryd.func41, Tryd.ntmps41
    go_wp2
    go_ret
    simp [inB, *]
theorem woLength_any (k : Int) (w : World) :
    Calls Tryd.prog 38 #[.int .i64 k] w fun e w' => e = .returned (.bool (inB k 0 15)) ∧ w = w' := by
  go_enter Tryd.func38, Tryd.ntmps38
  go_wp2_with (go_at_call 43; refine (l1In_any _ _ _ _).mono ?_; rintro e w' ⟨rfl, rfl⟩)
  go_ret
  exact ⟨rfl, rfl⟩
end Go.Proofs.YtencblbkbalmcaaDoor
