/-
  'remainderOf' of the program.
-/
import Derived.Test.YtbhmplccjaijjaaLeaf
import Derived.Test.YtbhmplccjaijjaaOmM
namespace Go.Proofs.Ytbhmplccjaijjaa
open Go.RowKit
set_option linter.unusedVariables false

theorem remainderOf_any (n m : Int) (w : World) (h1 : 1 ≤ m) (h2 : m ≤ 1000000) :
    Calls Try.prog 83 #[.int .i64 n, .int .i64 m] w fun e w' => e = .returned (.int .i64 (n % m)) ∧ w = w' := by
  have a := Int.tmod_lt_of_pos n (show 0 < m by omega)
  have b := Int.lt_tmod_of_pos n (show 0 < m by omega)
  have HR : Hid ((n.tmod m + m) % m = n % m) := Lib.hid (by rw [← Int.tmod_eq_emod_of_nonneg (by omega)]; exact res_two n m (by omega))
  have hm0 : (m == 0) = false := by simp; omega
  obtain ⟨x, hx⟩ : ∃ x, n.tmod m = x := ⟨_, rfl⟩
  rw [hx] at HR a b
  go_enter Try.func83, Try.ntmps83
  go_wp2_with fail
  go_ret
  exact ⟨ret_int HR.out, rfl⟩
end Go.Proofs.Ytbhmplccjaijjaa
