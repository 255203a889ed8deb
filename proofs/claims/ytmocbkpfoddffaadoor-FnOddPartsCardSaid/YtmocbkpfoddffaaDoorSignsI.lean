/-
  'SignsOf' of the program.
-/
import Derived.Test.YtmocbkpfoddffaaDoorSigns
import Derived.WalkLawsBesides
namespace Go.Proofs.YtmocbkpfoddffaaDoor
open Go.RowKit
set_option linter.unusedVariables false

theorem info5 : (Tryd.prog.info? 5).map (fun i => (i.zero, i.size, i.bytes)) = some (some (.int .u8 0), 1, 1) := by kernel_rfl

/-- A row that was just made holds zeros. -/
theorem made_zero (z : Value) (n : Nat) {j : Nat} (h : j < n * 1) (hz : z.cells = #[z] := by rfl) : ((madeCells z.cells (n * 1)).toList)[j]? = some z := by
  rw [hz]
  simp [madeCells]
  exact ⟨j, List.getElem?_range (by omega), by rw [Nat.mod_one]; rfl⟩

end Go.Proofs.YtmocbkpfoddffaaDoor
