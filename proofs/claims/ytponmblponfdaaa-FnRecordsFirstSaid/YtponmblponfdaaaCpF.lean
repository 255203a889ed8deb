/-
  The first numbers of a list, and zeros.
-/
import Derived.Test.YtponmblponfdaaaOwn
namespace Go.Proofs.Ytponmblponfdaaa

/-- The first j of the list, and zeros. -/
def cpF (xs : List Int) (j : Nat) : List Int := (List.range xs.length).map fun (i : Nat) => if i < j then xs.getD i 0 else 0
theorem cpF_length (xs : List Int) (j : Nat) : (cpF xs j).length = xs.length := by simp [cpF]
theorem cpF_zero (xs : List Int) : cpF xs 0 = List.replicate xs.length 0 := by
  apply List.ext_getElem (by simp [cpF])
  intro i h1 h2
  simp [cpF]
theorem cpF_full (xs : List Int) : cpF xs xs.length = xs := by
  apply List.ext_getElem (by simp [cpF])
  intro i h1 h2
  simp [cpF, List.getD, h2]
theorem cpF_set (xs : List Int) (j : Nat) : ((cpF xs j).map (Value.int .i64)).set j (.int .i64 (xs.getD j 0)) = (cpF xs (j + 1)).map (Value.int .i64) := by
  apply List.ext_getElem (by simp [cpF])
  intro i h1 h2
  rw [List.getElem_set]
  by_cases e : j = i
  · subst e; simp [cpF]
  · have : (i < j) = (i < j + 1) := by simp only [eq_iff_iff]; omega
    simp [cpF, e, this]
end Go.Proofs.Ytponmblponfdaaa
