/-
  'valueOf', 'isFitBy' of the program.
  'pzAll' of the model: all hidden numbers that fit some clues.
  'fitting' of the program: ContainsFunc over clues by a closure, sieve over hidden numbers by another.
-/
import Derived.Test.YtgobjobppajkbaaDoorPzV
import Derived.Test.YtgobjobppajkbaaDoorLeaf2
import Derived.Deep.RegionWith
import Derived.Test.YtgobjobppajkbaaDoorPzG
import Derived.Shelf.Abstract
namespace Go.Proofs.YtgobjobppajkbaaDoor
open Go.RowKit
set_option linter.unusedVariables false

theorem ret_two' {x : Int × Bool} {a : Int} {b : Bool} (h : x = (a, b)) : Ending.returned (.tuple #[.int .i64 x.1, .bool x.2]) = .returned (.tuple #[.int .i64 a, .bool b]) := by rw [h]
theorem max_abs (x : Int) : max x (-x) = absI x := by unfold absI; split <;> omega

end Go.Proofs.YtgobjobppajkbaaDoor

namespace Go.Proofs.YtgobjobppajkbaaDoor
open Go.RowKit
set_option linter.unusedVariables false

/-- A row of whole numbers made by the call. -/
def RetNew (xs : List Int) (w : World) (e : Ending) (w' : World) : Prop := ∃ v, e = .returned v ∧ IntsAt w' w.heap.size v xs ∧ Below w.heap.size w w'

/-- A box that holds a map. -/
def Bm (w : World) (b : Nat) (t p : Int) : Prop := (w.cell? ⟨b, 0, none⟩ = some (.int .i64 t) ∧ w.cell? ⟨b, 1, none⟩ = some (.int .i64 p)) ∧ b < w.heap.size
theorem Bm.kept {w w' : World} {b n : Nat} {t p : Int} (h : Bm w b t p) (hb : Below n w w') (hn : b < n) : Bm w' b t p :=
  ⟨⟨(hb.cell (p := ⟨b, 0, none⟩) hn).trans h.1.1, (hb.cell (p := ⟨b, 1, none⟩) hn).trans h.1.2⟩, Nat.lt_of_lt_of_le h.2 hb.size⟩
theorem Bm.keep {w w' : World} {b : Nat} {t p : Int} (h : Bm w b t p) (hb : Below w.heap.size w w') : Bm w' b t p := h.kept hb h.2
theorem Bm.new (w : World) (t p : Int) (T : TypeId) : Bm (w.alloc (.cells #[.int .i64 t, .int .i64 p] T)) w.heap.size t p := ⟨⟨by go_simp, by go_simp⟩, by simp⟩

end Go.Proofs.YtgobjobppajkbaaDoor

namespace Go.Proofs.YtgobjobppajkbaaDoor
open Go.RowKit
set_option linter.unusedVariables false

theorem notall_take {f : Pt → Bool} {cs : List Pt} {j : Nat} (hj : j < cs.length) (hx : f (cs.getD j pt0) = true) : cs.any f = true := by
  rw [List.getD_eq_getElem?_getD, List.getElem?_eq_getElem hj] at hx
  rw [List.any_eq_true]
  exact ⟨_, List.getElem_mem hj, by simpa using hx⟩
theorem any_take_no {f : Pt → Bool} {cs : List Pt} {j : Nat} (hj : j < cs.length) (h : (cs.take j).any f = false) (hx : f (cs.getD j pt0) = false) : (cs.take (j + 1)).any f = false := by
  rw [List.take_add_one, List.any_append, h, List.getElem?_eq_getElem hj]
  rw [List.getD_eq_getElem?_getD, List.getElem?_eq_getElem hj] at hx
  simpa using hx

theorem any_not {f : Pt → Bool} {cs : List Pt} : cs.any (fun q => !f q) = !cs.all f := by
  induction cs with
  | nil => rfl
  | cons q cs ih => simp [ih]

end Go.Proofs.YtgobjobppajkbaaDoor
