/-
  HOW MANY o: 'woOdds' of the model.
-/
import Derived.Test.YtnhpoefhcngoaaaDoorWordR
import Derived.Lib.Bytealg
namespace Go.Proofs.YtnhpoefhcngoaaaDoor
open Go.RowKit
set_option linter.unusedVariables false

/-- How many o a list of signs has. -/
def cnt (l : List UInt8) : Nat := l.count 111
theorem cnt_le (l : List UInt8) : cnt l ≤ l.length := List.count_le_length
theorem cnt_take {s : ByteArray} {k : Nat} (hk : k < s.size) : cnt (s.data.toList.take (k + 1)) = cnt (s.data.toList.take k) + if s[k] = 111 then 1 else 0 := by
  have e : s.data.toList.take (k + 1) = s.data.toList.take k ++ [s[k]] := by
    rw [List.take_succ_eq_append_getElem (by simpa using hk)]; rfl
  rw [e]
  unfold cnt
  rw [List.count_append, List.count_singleton]
  by_cases h : s[k] = 111 <;> simp [h]

end Go.Proofs.YtnhpoefhcngoaaaDoor
