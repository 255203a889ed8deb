/-
  'CountLost' of both.
-/
import Derived.Test.YtponmblponfdaaaCycS
namespace Go.Proofs.Ytponmblponfdaaa
open Go.RowKit
set_option linter.unusedVariables false

/-- How many of the numbers 1 to k are lost. -/
def lostN (t p : Int) : Nat → Nat
  | 0 => 0
  | k + 1 => lostN t p k + (if (cyA t p ((k : Int) + 1)).isSome = true then 0 else 1)
theorem lostN_le (t p : Int) (k : Nat) : lostN t p k ≤ k := by
  induction k with
  | zero => exact Nat.le_refl _
  | succ k ih => rw [lostN]; split <;> omega
/-- Are there a map and a limit? -/
def askL (t p k : Int) : Bool := goodB t p && inB k 1 300
/-- What CountLost comes to. -/
def clo (t p k : Int) : Int := if askL t p k = true then (lostN t p k.toNat : Int) else 0
theorem ret_cl {x y : Int} {a b : Bool} (h : x = y) (h' : a = b) : Ending.returned (.tuple #[.int .i64 x, .bool a]) = .returned (.tuple #[.int .i64 y, .bool b]) := by rw [h, h']
theorem small_num {K : Nat} {j : Nat} (hK : (K : Int) ≤ 300) (hj : j < K) : numB ((j : Int) + 1) = true := by rw [numB_iff]; omega
theorem lost_found {t p : Int} {j : Nat} {x : Nat × Nat} (h : cyA t p ((j : Int) + 1) = some x) : lostN t p (j + 1) = lostN t p j := by rw [lostN, h]; rfl
theorem lost_not {t p : Int} {j : Nat} (h : cyA t p ((j : Int) + 1) = none) : lostN t p (j + 1) = lostN t p j + 1 := by rw [lostN, h]; rfl

end Go.Proofs.Ytponmblponfdaaa
