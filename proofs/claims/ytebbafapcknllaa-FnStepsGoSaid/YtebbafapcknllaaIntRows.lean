/-
  A SLICE OF INTEGERS OF THE CALL's OWN, BY ITS CELLS.
-/
import Derived.Test.YtebbafapcknllaaOwn
namespace Go.Proofs.Ytebbafapcknllaa
open Go.RowKit
set_option linter.unusedVariables false

/-- A slice of integers, not empty, by its cells. -/
def IntRow (w : World) (g : Nat) (xs : List Int) : Prop :=
  ∀ j, j < xs.length → w.cell? ⟨g, j, none⟩ = some (.int .i64 (xs.getD j 0)) ∧ w.frozen? ⟨g, j, none⟩ = false
theorem IntRow.kept {w w' : World} {g : Nat} {xs : List Int} (h : IntRow w g xs) (hg : g < w.heap.size) (hb : Below w.heap.size w w') : IntRow w' g xs :=
  fun j hj => ⟨(hb.cell (p := ⟨g, j, none⟩) hg).trans (h j hj).1, (hb.frozen (p := ⟨g, j, none⟩) hg).trans (h j hj).2⟩
/-- A slice of the call's own: nil, or a row of cells. -/
theorem IntsAt.cases {w : World} {B : Nat} {v : Value} {xs : List Int} (h : IntsAt w B v xs) :
    (v = .slice none 0 0 ∧ xs = []) ∨ ∃ g cap, v = .slice (some ⟨g, 0, none⟩) xs.length cap ∧ B ≤ g ∧ g < w.heap.size ∧ xs.length ≤ maxLen ∧ IntRow w g xs := by
  rcases h.2 with ⟨rfl, h0⟩ | ⟨g, cap, cur, rfl, hB, hg, hn, hc, _⟩
  · exact .inl ⟨rfl, List.eq_nil_of_length_eq_zero h0⟩
  · refine .inr ⟨g, cap, rfl, hB, (Array.getElem?_eq_some_iff.1 hg).1, by omega, fun j hj => ⟨?_, World.ownsRow.frozenAt h j⟩⟩
    have := World.ownsRow.cellAt h j (by omega)
    rw [List.getElem?_map, List.getElem?_eq_getElem hj] at this
    rw [this]
    simp [List.getD_eq_getElem?_getD, hj]

theorem IntsAt.form {w : World} {B : Nat} {v : Value} {xs : List Int} (h : IntsAt w B v xs) : ∃ a cap, v = .slice a xs.length cap := by
  rcases h.cases with ⟨rfl, rfl⟩ | ⟨g, cap, rfl, _⟩
  · exact ⟨none, 0, rfl⟩
  · exact ⟨_, cap, rfl⟩
end Go.Proofs.Ytebbafapcknllaa
