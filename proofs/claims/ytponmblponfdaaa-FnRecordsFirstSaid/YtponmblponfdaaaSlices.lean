/-
  WHAT THE LAWS DO TO A SLICE OF INTEGERS: it is held against another, marked, and read again.
  THE SAME AT WHATEVER SLICE OF THE CALL's OWN: nil, empty or not.
-/
import Derived.Test.YtponmblponfdaaaOwn
import Derived.WalkSmall
namespace Go.Proofs.Ytponmblponfdaaa
open Go.RowKit
set_option linter.unusedVariables false

/-- The numbers 1, 2, .. in a row. -/
def marked (L : Nat) : List Int := (List.range L).map fun (i : Nat) => (i : Int) + 1

end Go.Proofs.Ytponmblponfdaaa

namespace Go.Proofs.Ytponmblponfdaaa
open Go.RowKit
set_option linter.unusedVariables false

/-- A slice that reads as xs. -/
def IntsIn (w : World) (v : Value) (xs : List Int) : Prop :=
  ∃ a cap, v = .slice a xs.length cap ∧ (xs ≠ [] → ∃ g, a = some ⟨g, 0, none⟩ ∧ g < w.heap.size ∧ IntRow w g xs)
theorem IntsAt.isIn {w : World} {B : Nat} {v : Value} {xs : List Int} (h : IntsAt w B v xs) : IntsIn w v xs := by
  rcases h.cases with ⟨rfl, rfl⟩ | ⟨g, cap, rfl, _, hg, _, hr⟩
  · exact ⟨none, 0, rfl, fun h => (h rfl).elim⟩
  · exact ⟨_, cap, rfl, fun _ => ⟨g, rfl, hg, hr⟩⟩
theorem IntsIn.kept {w w' : World} {v : Value} {xs : List Int} (h : IntsIn w v xs) (hb : Below w.heap.size w w') : IntsIn w' v xs := by
  obtain ⟨a, cap, rfl, hx⟩ := h
  exact ⟨a, cap, rfl, fun hn => by obtain ⟨g, rfl, hg, hr⟩ := hx hn; exact ⟨g, rfl, Nat.lt_of_lt_of_le hg hb.size, hr.kept hg hb⟩⟩
theorem IntsIn.grown {w w' : World} {v : Value} {xs : List Int} {row : Option Nat} (h : IntsIn w v xs) (hg : w.grownBy w' row) (hne : v.ownBlock = none ∨ v.ownBlock ≠ row) : IntsIn w' v xs := by
  obtain ⟨a, cap, rfl, hx⟩ := h
  refine ⟨a, cap, rfl, fun hn => ?_⟩
  obtain ⟨g, rfl, hlt, hr⟩ := hx hn
  have hne' : some g ≠ row := by
    rcases hne with h | h
    · simp [Value.ownBlock] at h
    · simpa [Value.ownBlock] using h
  have hh := hg.block g hlt hne'
  exact ⟨g, rfl, Nat.lt_of_lt_of_le hlt hg.size, fun j hj => ⟨(World.cell?_of_block (a := ⟨g, j, none⟩) hh).trans (hr j hj).1, (World.frozen?_of_block (a := ⟨g, j, none⟩) hh).trans (hr j hj).2⟩⟩

end Go.Proofs.Ytponmblponfdaaa
