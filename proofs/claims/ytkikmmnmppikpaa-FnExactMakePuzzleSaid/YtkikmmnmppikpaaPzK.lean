/-
  'Solutions', 'CountSolutions', 'FirstSolution', 'GreatestSolution', 'IsSolved' of both.
-/
import Derived.Test.YtkikmmnmppikpaaPzJ
import Derived.Test.YtkikmmnmppikpaaRowAt
namespace Go.Proofs.Ytkikmmnmppikpaa
open Go.RowKit
set_option linter.unusedVariables false

theorem IntsIn.rd {w : World} {v : Value} {xs : List Int} (h : IntsIn w v xs) : ∃ a cap, v = .slice a xs.length cap ∧ ∀ j, j < xs.length → ∃ g, a = some ⟨g, 0, none⟩ ∧ g < w.heap.size ∧ w.cell? ⟨g, j, none⟩ = some (.int .i64 (xs.getD j 0)) := by
  obtain ⟨a, cap, rfl, hx⟩ := h
  refine ⟨a, cap, rfl, fun j hj => ?_⟩
  obtain ⟨g, rfl, hg, hr⟩ := hx (by rintro rfl; simp at hj)
  refine ⟨g, rfl, hg, ?_⟩
  exact (hr j hj).1
/-- The first and the last of a row. -/
def fsL (l : List Int) : Int × Bool := if l.length = 0 then (0, false) else (l.getD 0 0, true)
def gsL (l : List Int) : Int × Bool := if l.length = 0 then (0, false) else (l.getD (l.length - 1) 0, true)
theorem solR_no {t p : Int} {ps : List Pt} (h : pzB t p ps = false) : solR t p ps = [] := by rw [solR, h]; rfl
theorem solR_yes {t p : Int} {ps : List Pt} (h : pzB t p ps = true) : solR t p ps = solA t p ps := by rw [solR, if_pos h]
theorem solR_le (t p : Int) (ps : List Pt) : (solR t p ps).length ≤ 60 := by
  unfold solR
  split
  · exact solA_len t p ps
  · simp

end Go.Proofs.Ytkikmmnmppikpaa
