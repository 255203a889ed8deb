/-
  'PeakOf' and 'LowOf' of both.
-/
import Derived.Test.YtgobjobppajkbaaDoorFar
namespace Go.Proofs.YtgobjobppajkbaaDoor
open Go.RowKit
set_option linter.unusedVariables false

theorem ret_three {x : Int × Int × Bool} {a b : Int} {c : Bool} (h : x = (a, b, c)) : Ending.returned (.tuple #[.int .i64 a, .int .i64 b, .bool c]) = .returned (.tuple #[.int .i64 x.1, .int .i64 x.2.1, .bool x.2.2]) := by rw [h]
/-- The numbers of a way, one after the other. -/
def way (t p n : Int) : Nat → Int := fun j => itr (nx t p) j n
/-- What PeakOf (s) and LowOf come to. -/
def pk (s : Bool) (t p n k : Int) : Int × Int × Bool := if (aft t p (nx t p) n k).2 = true then (best s (way t p n) k.toNat, (far s (way t p n) k.toNat : Int), true) else (0, 0, false)
theorem far_first (s : Bool) (a : Nat → Int) (k j : Nat) (h : j < far s a k) : a j ≠ best s a k := by
  have := (far_best s a k).2 j h
  intro e
  rw [best] at e
  rw [e] at this
  cases s <;> simp [bet] at this

end Go.Proofs.YtgobjobppajkbaaDoor
