/-
  'OddSteps' of both.
-/
import Derived.Test.YtmocbkpfoddffaaDoorSignsI
import Derived.Lib.Bytealg
import Derived.Laws.Externs
namespace Go.Proofs.YtmocbkpfoddffaaDoor
open Go.RowKit
set_option linter.unusedVariables false

/-- How many of the first k numbers of a way are odd. -/
def ods (f : Int → Int) (n : Int) : Nat → Nat
  | 0 => 0
  | k + 1 => ods f n k + if oddB (itr f k n) = true then 1 else 0
theorem ods_le (f : Int → Int) (n : Int) (k : Nat) : ods f n k ≤ k := by
  induction k with
  | zero => simp [ods]
  | succ k ih => rw [ods]; split <;> omega
theorem ods_sgL (f : Int → Int) (n : Int) (k : Nat) : Lib.countByte (sgL f n k) 111 = ods f n k := by
  unfold Lib.countByte
  induction k with
  | zero => simp [sgL, ods]
  | succ k ih =>
    rw [sgL_succ, List.count_append, ih, ods]
    unfold sgn
    split <;> rfl
theorem bytesOf_list (l : List UInt8) : (bytesOf l).data.toList = l := rfl
/-- What OddSteps comes to. -/
def odd (t p n k : Int) : Nat := if (aft t p (nx t p) n k).2 = true then ods (nx t p) n k.toNat else 0
theorem odd_sig (t p n k : Int) : Lib.countByte (sig t p n k).data.toList 111 = odd t p n k := by
  unfold sig odd
  split
  · rw [bytesOf_list, ods_sgL]
  · rfl
theorem ret_nat {x : Nat} {y z : Bool} {s : Nat} (h : x = s) (h' : y = z) : Ending.returned (.tuple #[.int .i64 (s : Int), .bool z]) = .returned (.tuple #[.int .i64 (x : Int), .bool y]) := by rw [h, h']

end Go.Proofs.YtmocbkpfoddffaaDoor
