/-
  'CycleOf', 'LeadOf', 'IsOnCycle' of the model.
-/
import Derived.Test.YtponmblponfdaaaCyc
namespace Go.Proofs.Ytponmblponfdaaa
open Go.RowKit
set_option linter.unusedVariables false

/-- 'cyTurn' at the part of a path that is a cycle. -/
theorem cyTurn_path (t p n : Int) (K i L g cap : Nat) (w : World) (hF : Fnd (nx t p) n K i) (hL : K - i = L + 1) (hrow : IntRow w g (wayL (nx t p) n K)) (hg : g < w.heap.size) (hcap : K ≤ cap) (hcm : cap ≤ maxLen) :
    Calls Try.prog 73 #[.slice (some ⟨g, i, none⟩) (L + 1) (cap - i)] w fun e w' => ∃ v, e = .returned v ∧ IntsAt w' w.heap.size v (cycT (nx t p) n K i) ∧ Below w.heap.size w w' := by
  have hl := hF.le
  have h := (part_of_row hrow).drop i
  rw [way_drop, Nat.zero_add] at h
  have e1 : (cycL (nx t p) n K i).length = L + 1 := by rw [cycL_length, hL]
  refine (cyTurn_any g i (cap - i) L (cycL (nx t p) n K i) w e1 (by omega) (by omega) (by omega) h hg).mono ?_
  rintro e w' ⟨v, rfl, hr, hb⟩
  have e2 : far false (fun j => (cycL (nx t p) n K i).getD j 0) L = leastJ (nx t p) n K i := by
    unfold leastJ
    rw [show K - i - 1 = L by omega]
    exact far_congr fun j hj => cycL_at (by omega)
  rw [e2, hF.turn (leastJ_lt hF.lt)] at hr
  exact ⟨v, rfl, hr, hb⟩

end Go.Proofs.Ytponmblponfdaaa
