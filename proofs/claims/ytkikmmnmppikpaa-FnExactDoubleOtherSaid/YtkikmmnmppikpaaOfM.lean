/-
  'OtherOfMap' of the model and of the program.
-/
import Derived.Test.YtkikmmnmppikpaaPt
import Derived.Test.YtkikmmnmppikpaaLeafB
namespace Go.Proofs.Ytkikmmnmppikpaa
open Go.RowKit
set_option linter.unusedVariables false

/-- An other map handed back. -/
def RetOth (qs : List Pt) (ok : Bool) (w : World) (e : Ending) (w' : World) : Prop :=
  ∃ v, e = .returned (.tuple #[v, .bool ok]) ∧ OthAt w' w.heap.size w'.heap.size v qs ∧ Below w.heap.size w w'
theorem othAt_nil (w : World) (B : Nat) : OthAt w B w.heap.size (.agg #[.slice none 0 0]) [] := ⟨Nat.le_refl _, none, 0, rfl, fun h => (h rfl).elim⟩
/-- The other map of two parts that goes as a map. -/
def omOf (t p : Int) : List Pt := if goodB t p = true then [(1, 0, 2), (t, p, 1)] else []
theorem omOf_len (t p : Int) : (omOf t p).length ≤ 1048576 := by
  unfold omOf
  split <;> simp
theorem row_two (w : World) (t p : Int) (T : TypeId) : PtRow (w.alloc (.cells #[.int .i64 1, .int .i64 0, .int .i64 2, .int .i64 t, .int .i64 p, .int .i64 1] T)) w.heap.size [(1, 0, 2), (t, p, 1)] := by
  intro j hj
  match j, hj with
  | 0, _ => exact ⟨⟨by go_simp, by go_simp, by go_simp⟩, by go_simp, by go_simp, by go_simp⟩
  | 1, _ => exact ⟨⟨by go_simp, by go_simp, by go_simp⟩, by go_simp, by go_simp, by go_simp⟩

end Go.Proofs.Ytkikmmnmppikpaa
