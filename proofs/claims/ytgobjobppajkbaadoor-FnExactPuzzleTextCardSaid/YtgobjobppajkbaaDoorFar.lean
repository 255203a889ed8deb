/-
  THE GREATEST AND THE LEAST NUMBER OF A PATH: 'mpFar' of the model; 'slices.Max', 'slices.Min', 'slices.Index' of the library at slices of integers.
-/
import Derived.Test.YtgobjobppajkbaaDoorSum
import Derived.WalkLawsBesides
namespace Go.Proofs.YtgobjobppajkbaaDoor
open Go.RowKit
set_option linter.unusedVariables false

/-- Is x greater (s), or less, than y? -/
def bet (s : Bool) (x y : Int) : Bool := if s = true then decide (y < x) else decide (x < y)
/-- The first place of the greatest (least) of a 0 .. a k. -/
def far (s : Bool) (a : Nat → Int) : Nat → Nat
  | 0 => 0
  | k + 1 => if bet s (a (k + 1)) (a (far s a k)) = true then k + 1 else far s a k
theorem far_le (s : Bool) (a : Nat → Int) (k : Nat) : far s a k ≤ k := by
  induction k with
  | zero => exact Nat.le_refl _
  | succ k ih => rw [far]; split <;> omega
theorem far_best (s : Bool) (a : Nat → Int) (k : Nat) : (∀ j, j ≤ k → bet s (a j) (a (far s a k)) = false) ∧ ∀ j, j < far s a k → bet s (a (far s a k)) (a j) = true := by
  induction k with
  | zero =>
    refine ⟨fun j hj => ?_, fun j hj => absurd hj (by simp [far])⟩
    obtain rfl : j = 0 := by omega
    cases s <;> simp [bet, far]
  | succ k ih =>
    obtain ⟨h1, h2⟩ := ih
    rw [far]
    split
    · rename_i hb
      refine ⟨fun j hj => ?_, fun j hj => ?_⟩
      · by_cases e : j = k + 1
        · subst e; cases s <;> simp [bet]
        · have := h1 j (by omega)
          cases s <;> simp [bet] at * <;> omega
      · have := h1 j (by omega)
        cases s <;> simp [bet] at * <;> omega
    · rename_i hb
      refine ⟨fun j hj => ?_, h2⟩
      by_cases e : j = k + 1
      · subst e; simpa using hb
      · exact h1 j (by omega)

/-- The greatest (least) of a 0 .. a k. -/
def best (s : Bool) (a : Nat → Int) (k : Nat) : Int := a (far s a k)
theorem best_max (a : Nat → Int) (k : Nat) : best true a (k + 1) = if best true a k < a (k + 1) then a (k + 1) else best true a k := by
  unfold best
  rw [far, bet]
  by_cases h : a (far true a k) < a (k + 1)
  · simp [h]
  · simp [h]
theorem best_min (a : Nat → Int) (k : Nat) : best false a (k + 1) = if a (k + 1) < best false a k then a (k + 1) else best false a k := by
  unfold best
  rw [far, bet]
  by_cases h : a (k + 1) < a (far false a k)
  · simp [h]
  · simp [h]

end Go.Proofs.YtgobjobppajkbaaDoor
