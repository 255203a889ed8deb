/-
  'fitting' of the program: ContainsFunc over clues by a closure, sieve over hidden numbers by another.
-/
import Derived.Test.YtgobjobppajkbaaDoorPzI
import Derived.Test.YtgobjobppajkbaaDoorPzA
import Derived.Shelf.Abstract
namespace Go.Proofs.YtgobjobppajkbaaDoor
open Go.RowKit
set_option linter.unusedVariables false

theorem notall_take {f : Pt → Bool} {cs : List Pt} {j : Nat} (hj : j < cs.length) (hx : f (cs.getD j pt0) = true) : cs.any f = true := by
  rw [List.getD_eq_getElem?_getD, List.getElem?_eq_getElem hj] at hx
  rw [List.any_eq_true]
  exact ⟨_, List.getElem_mem hj, by simpa using hx⟩
theorem any_take_no {f : Pt → Bool} {cs : List Pt} {j : Nat} (hj : j < cs.length) (h : (cs.take j).any f = false) (hx : f (cs.getD j pt0) = false) : (cs.take (j + 1)).any f = false := by
  rw [List.take_add_one, List.any_append, h, List.getElem?_eq_getElem hj]
  rw [List.getD_eq_getElem?_getD, List.getElem?_eq_getElem hj] at hx
  simpa using hx

theorem any_not {f : Pt → Bool} {cs : List Pt} : cs.any (fun q => !f q) = !cs.all f := by
  induction cs with
  | nil => rfl
  | cons q cs ih => simp [ih]

end Go.Proofs.YtgobjobppajkbaaDoor
