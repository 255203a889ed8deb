/-
  WHAT THE MOST AND THE RECORDS OF A LIST ARE HANDED BACK AS.
-/
import Derived.Test.YtponmblponfdaaaMost
import Derived.Test.YtponmblponfdaaaPairs
namespace Go.Proofs.Ytponmblponfdaaa
open Go.RowKit
set_option linter.unusedVariables false

/-- What SlowestUpTo and its like hand back. -/
def RetMost (xs : List Int) (w : World) (e : Ending) (w' : World) : Prop := e = .returned (.tuple #[.int .i64 (lastR (rcL xs)).1, .int .i64 (lastR (rcL xs)).2, .bool (anyR (rcL xs))]) ∧ Below w.heap.size w w'
/-- What StepRecords and its like hand back. -/
def RetPairs (rs : List (Int × Int)) (ok : Bool) (w : World) (e : Ending) (w' : World) : Prop := ∃ v, e = .returned (.tuple #[v, .bool ok]) ∧ PairsAt w' w.heap.size v rs ∧ Below w.heap.size w w'
theorem bnd_tab {h : Int → Int → Int → Int} {t p : Int} (hb : ∀ n, 1 ≤ n → n ≤ 300 → goodB t p = true → -1 ≤ h t p n ∧ h t p n ≤ 1000000000000) (k : Int) : Bnd (tabA h t p k) := by
  intro j hj
  cases ha : askL t p k
  · rw [tabA_no ha] at hj; cases hj
  · obtain ⟨K, rfl, _, hK, hg⟩ := askL_yes ha
    rw [tabA_yes ha, tabL_length] at hj
    unfold atL
    rw [tabA_yes ha, tabL_at hj]
    exact hb _ (by omega) (by omega) hg
end Go.Proofs.Ytponmblponfdaaa
