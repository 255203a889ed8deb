/-
  THE MODEL's LOOPS: 'ShortAfter', 'StepsTo', 'FirstBelow'.
-/
import Derived.Test.YtmocbkpfoddffaaDoorNum
namespace Go.Proofs.YtmocbkpfoddffaaDoor
open Go.RowKit Go.Shelf
set_option linter.unusedVariables false

/-- The map's block, known by its two cells. -/
def MapAt (W : World) (b : Nat) (t p : Int) : Prop := W.cell? ⟨b, 0, none⟩ = some (.int .i64 t) ∧ W.cell? ⟨b, 1, none⟩ = some (.int .i64 p) ∧ b < W.heap.size
theorem MapAt.below {W W' : World} {b B : Nat} {t p : Int} (h : MapAt W b t p) (hB : b < B) (hb : Below B W W') : MapAt W' b t p :=
  ⟨(hb.cell (p := ⟨b, 0, none⟩) hB).trans h.1, (hb.cell (p := ⟨b, 1, none⟩) hB).trans h.2.1, Nat.lt_of_lt_of_le h.2.2 hb.size⟩

end Go.Proofs.YtmocbkpfoddffaaDoor
