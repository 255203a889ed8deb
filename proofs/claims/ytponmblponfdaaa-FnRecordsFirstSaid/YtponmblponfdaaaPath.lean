/-
  'mpPath' of the model: the path of so many steps, in a slice of its own.
-/
import Derived.Test.YtponmblponfdaaaLeaf
import Derived.Test.YtponmblponfdaaaOwn
namespace Go.Proofs.Ytponmblponfdaaa
open Go.RowKit
set_option linter.unusedVariables false

/-- The path of k steps: k + 1 numbers. -/
def pathL (f : Int → Int) (n : Int) (k : Nat) : List Int := (List.range (k + 1)).map fun (i : Nat) => itr f i n
theorem pathL_succ (f : Int → Int) (n : Int) (k : Nat) : pathL f n (k + 1) = pathL f n k ++ [itr f (k + 1) n] := by
  simp [pathL, List.range_succ]
theorem pathL_length (f : Int → Int) (n : Int) (k : Nat) : (pathL f n k).length = k + 1 := by simp [pathL]
theorem pathL_at (f : Int → Int) (n : Int) {k j : Nat} (h : j ≤ k) : (pathL f n k)[j]? = some (itr f j n) := by
  rw [pathL, List.getElem?_map, List.getElem?_range (by omega)]; rfl

/-- What a function that makes a path hands back. -/
def RetPath (xs : List Int) (ok : Bool) (w : World) (e : Ending) (w' : World) : Prop :=
  ∃ v, e = .returned (.tuple #[v, .bool ok]) ∧ IntsAt w' w.heap.size v xs ∧ Below w.heap.size w w' ∧ (xs = [] → v = .slice none 0 0)

/-- The path, if all on it are numbers. -/
def pathOr (f : Int → Int) (n : Int) (k : Nat) : List Int := if allB f n (k + 1) = true then pathL f n k else []

end Go.Proofs.Ytponmblponfdaaa
