/-
  'along': the closure that a walk is ranged over by.
-/
import Derived.Test.YtencblbkbalmcaaDoorIter
namespace Go.Proofs.YtencblbkbalmcaaDoor
open Go.RowKit Go.Shelf
set_option linter.unusedVariables false

theorem along_any (t p n : Int) (fs : Nat) (w : World) :
    Calls Tryd.prog 81 #[.agg #[.int .i64 t, .int .i64 p, .int .i64 n], .func (.func fs) #[] #[]] w fun e w' =>
      e = .returned (.func (.func 87) #[] #[.pointer (some ⟨w.heap.size, 0, none⟩), .pointer (some ⟨w.heap.size + 1, 0, none⟩)]) ∧
      (w.alloc (.cells #[.int .i64 t, .int .i64 p, .int .i64 n] 84)).alloc (.cells #[.func (.func fs) #[] #[]] 86) = w' := by
  go_enter Tryd.func81, Tryd.ntmps81
  go_wp2
  go_ret
  exact ⟨rfl, rfl⟩

end Go.Proofs.YtencblbkbalmcaaDoor
