/-
  'isBarren' of the program, 'trBarren' of the model.
-/
import Derived.Test.YtjcpdlamgjpmmaaTreeB
import Derived.Test.YtjcpdlamgjpmmaaNumB
namespace Go.Proofs.Ytjcpdlamgjpmmaa
open Go.RowKit
set_option linter.unusedVariables false

theorem dbl_bound {n : Int} (hn : numB n = true) {j : Nat} (hj : j ≤ 6) : -64000000000000 ≤ itr dblF j n ∧ itr dblF j n ≤ 64000000000000 := by
  have := numB_iff.1 hn
  rw [itr_dbl]
  have h : j = 0 ∨ j = 1 ∨ j = 2 ∨ j = 3 ∨ j = 4 ∨ j = 5 ∨ j = 6 := by omega
  rcases h with rfl | rfl | rfl | rfl | rfl | rfl | rfl <;> omega
theorem turn_bound {t n : Int} (ht : 1 ≤ t) (j : Nat) : 0 ≤ itr (turnF t) j (n % (2 * t)) ∧ itr (turnF t) j (n % (2 * t)) < 2 * t := by
  cases j with
  | zero => exact ⟨Int.emod_nonneg _ (by omega), Int.emod_lt_of_pos _ (by omega)⟩
  | succ j => rw [itr_succ, turnF]; exact ⟨Int.emod_nonneg _ (by omega), Int.emod_lt_of_pos _ (by omega)⟩
end Go.Proofs.Ytjcpdlamgjpmmaa
