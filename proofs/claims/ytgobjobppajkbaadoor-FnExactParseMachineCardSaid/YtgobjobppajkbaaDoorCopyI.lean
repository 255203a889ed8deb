/-
  A LIST THAT THE CALLER GAVE, AND ITS COPY: 'toIntS'.
-/
import Derived.Test.YtgobjobppajkbaaDoorLists
import Derived.Test.YtgobjobppajkbaaDoorCpF
import Derived.OwnWalk
import Derived.WalkLawsBesides
namespace Go.Proofs.YtgobjobppajkbaaDoor
open Go.RowKit
set_option linter.unusedVariables false

/-- The caller's list: wherever it lies, nil or not. -/
def ArgI (w : World) (v : Value) (xs : List Int) : Prop :=
  ∃ a cap, v = .slice a xs.length cap ∧ (xs ≠ [] → ∃ b off, a = some ⟨b, off, none⟩ ∧ b < w.heap.size ∧ ∀ j, j < xs.length → w.cell? ⟨b, off + j, none⟩ = some (.int .i64 (xs.getD j 0)))
theorem ArgI.kept {w w' : World} {v : Value} {xs : List Int} {n : Nat} (h : ArgI w v xs) (hb : Below n w w') (hn : w.heap.size ≤ n) : ArgI w' v xs := by
  obtain ⟨a, cap, rfl, hx⟩ := h
  refine ⟨a, cap, rfl, fun hne => ?_⟩
  obtain ⟨b, off, rfl, hlt, hc⟩ := hx hne
  exact ⟨b, off, rfl, Nat.lt_of_lt_of_le hlt hb.size, fun j hj => (hb.cell (p := ⟨b, off + j, none⟩) (Nat.lt_of_lt_of_le hlt hn)).trans (hc j hj)⟩

theorem info3c : (Tryd.prog.info? 3).map (fun i => (i.zero, i.size, i.bytes)) = some (some (.int .i64 0), 1, 8) := by kernel_rfl

end Go.Proofs.YtgobjobppajkbaaDoor
