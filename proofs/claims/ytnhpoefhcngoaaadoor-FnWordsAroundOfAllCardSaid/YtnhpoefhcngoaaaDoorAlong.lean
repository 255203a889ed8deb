/-
  'along': the closure that a walk is ranged over by.
-/
import Derived.Test.YtnhpoefhcngoaaaDoorIter
namespace Go.Proofs.YtnhpoefhcngoaaaDoor
open Go.RowKit Go.Shelf
set_option linter.unusedVariables false

theorem along_any (t p n : Int) (fs : Nat) (w : World) :
    Calls Tryd.prog 53 #[.agg #[.int .i64 t, .int .i64 p, .int .i64 n], .func (.func fs) #[] #[]] w fun e w' =>
      e = .returned (.func (.func 61) #[] #[.pointer (some ⟨w.heap.size, 0, none⟩), .pointer (some ⟨w.heap.size + 1, 0, none⟩)]) ∧
      (w.alloc (.cells #[.int .i64 t, .int .i64 p, .int .i64 n] 53)).alloc (.cells #[.func (.func fs) #[] #[]] 55) = w' := by
  go_enter Tryd.func53, Tryd.ntmps53
  go_wp2
  go_ret
  exact ⟨rfl, rfl⟩

end Go.Proofs.YtnhpoefhcngoaaaDoor
