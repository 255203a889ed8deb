/-
  'StepsTo' and 'FirstBelow' of the program: loops over the walk that end at the first number that they look for.
-/
import Derived.Test.YtencblbkbalmcaaDoorAfter
namespace Go.Proofs.YtencblbkbalmcaaDoor
open Go.RowKit Go.Shelf
attribute [local go_sem] Oper.semAt_some
set_option linter.unusedVariables false

/-- The first pair that is looked for. -/
def hit (S : List (Int × Int)) (q : Int × Int → Bool) (r : Int × Int → Int) : Int × Bool :=
  match S.find? q with
  | some x => (r x, true)
  | none => (0, false)
theorem hit_none {S : List (Int × Int)} {q : Int × Int → Bool} {r : Int × Int → Int} (h : ∀ x ∈ S, q x = false) : hit S q r = (0, false) := by
  have : S.find? q = none := by rw [List.find?_eq_none]; intro x hx; simp [h x hx]
  rw [hit, this]
theorem hit_some {S pre : List (Int × Int)} {q : Int × Int → Bool} {r : Int × Int → Int} {x : Int × Int} (h : ∀ y ∈ pre, q y = false) (hx : q x = true) (hp : (pre ++ [x]) <+: S) : hit S q r = (r x, true) := by
  obtain ⟨rest, rfl⟩ := hp
  have : ((pre ++ [x]) ++ rest).find? q = some x := by
    have hn : pre.find? q = none := by rw [List.find?_eq_none]; intro y hy; simp [h y hy]
    rw [List.append_assoc, List.find?_append, hn]; simp [hx]
  rw [hit, this]

end Go.Proofs.YtencblbkbalmcaaDoor
