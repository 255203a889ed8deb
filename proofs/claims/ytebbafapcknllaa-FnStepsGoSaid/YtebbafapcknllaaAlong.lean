/-
  'along': the closure that a walk is ranged over by.
-/
import Derived.Test.YtebbafapcknllaaIter
namespace Go.Proofs.Ytebbafapcknllaa
open Go.RowKit Go.Shelf
set_option linter.unusedVariables false

theorem along_any (t p n : Int) (fs : Nat) (w : World) :
    Calls Try.prog 50 #[.agg #[.int .i64 t, .int .i64 p, .int .i64 n], .func (.func fs) #[] #[]] w fun e w' =>
      e = .returned (.func (.func 65) #[] #[.pointer (some ⟨w.heap.size, 0, none⟩), .pointer (some ⟨w.heap.size + 1, 0, none⟩)]) ∧
      (w.alloc (.cells #[.int .i64 t, .int .i64 p, .int .i64 n] 51)).alloc (.cells #[.func (.func fs) #[] #[]] 53) = w' := by
  go_enter Try.func50, Try.ntmps50
  go_wp2
  go_ret
  exact ⟨rfl, rfl⟩

end Go.Proofs.Ytebbafapcknllaa
