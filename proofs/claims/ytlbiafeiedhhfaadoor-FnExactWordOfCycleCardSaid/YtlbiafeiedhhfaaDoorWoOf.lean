/-
  THE WORD OF A NUMBER, IN THE MODEL: 'woOf'.
-/
import Derived.Test.YtlbiafeiedhhfaaDoorNumB
import Derived.Laws.IdiomStrings
import Derived.OwnWalk
import Derived.Outline
namespace Go.Proofs.YtlbiafeiedhhfaaDoor
open Go.RowKit
set_option linter.unusedVariables false

def wby (l : List UInt8) : ByteArray := ⟨l.toArray⟩
theorem wby_add (w : World) (l : List UInt8) (b : UInt8) (h : l.length ≤ 1000) : (Op.stringOp .add (wby l) ⟨#[b]⟩).run Tryd.prog w = .ok (.string (wby (l ++ [b]))) w := by
  rw [run_string_add_sum w _ _ (by
    have h1 : (wby l).size = l.length := by show l.toArray.size = _; simp
    have h2 : (ByteArray.mk #[b]).size = 1 := rfl
    omega)]
  have : wby l ++ ⟨#[b]⟩ = wby (l ++ [b]) := by
    unfold wby
    rw [ByteArray.mk_append_mk]
  rw [this]
theorem ret_wby {x y : ByteArray} (h : x = y) : Ending.returned (.string x) = .returned (.string y) := by rw [h]
theorem par_odd {v : Int} (h : oddB v = true) : par v = 111 := by
  unfold par oddB at *
  rw [if_neg (by simpa using h)]
theorem par_even {v : Int} (h : oddB v = false) : par v = 101 := by
  unfold par oddB at *
  rw [if_pos (by simpa using h)]

end Go.Proofs.YtlbiafeiedhhfaaDoor
