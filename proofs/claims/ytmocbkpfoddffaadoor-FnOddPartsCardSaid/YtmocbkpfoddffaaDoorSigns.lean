/-
  'SignsOf' of both.
-/
import Derived.Test.YtmocbkpfoddffaaDoorSum
import Derived.Laws.IdiomStrings
import Derived.OwnWalk
namespace Go.Proofs.YtmocbkpfoddffaaDoor
open Go.RowKit
set_option linter.unusedVariables false

/-- The sign of a number: o or e. -/
def sgn (v : Int) : UInt8 := if oddB v = true then 111 else 101
/-- The signs of the first k numbers of a way. -/
def sgL (f : Int → Int) (n : Int) (k : Nat) : List UInt8 := (List.range k).map fun (i : Nat) => sgn (itr f i n)
theorem sgL_succ (f : Int → Int) (n : Int) (k : Nat) : sgL f n (k + 1) = sgL f n k ++ [sgn (itr f k n)] := by simp [sgL, List.range_succ]
theorem sgL_length (f : Int → Int) (n : Int) (k : Nat) : (sgL f n k).length = k := by simp [sgL]
def bytesOf (l : List UInt8) : ByteArray := ⟨l.toArray⟩
theorem bytesOf_add (w : World) (l : List UInt8) (b : UInt8) (h : l.length ≤ 1000) : (Op.stringOp .add (bytesOf l) ⟨#[b]⟩).run Tryd.prog w = .ok (.string (bytesOf (l ++ [b]))) w := by
  rw [run_string_add_sum w _ _ (by
    have h1 : (bytesOf l).size = l.length := by show l.toArray.size = _; simp
    have h2 : (ByteArray.mk #[b]).size = 1 := rfl
    omega)]
  have : bytesOf l ++ ⟨#[b]⟩ = bytesOf (l ++ [b]) := by
    unfold bytesOf
    rw [ByteArray.mk_append_mk]
  rw [this]
/-- What SignsOf comes to. -/
def sig (t p n k : Int) : ByteArray := if (aft t p (nx t p) n k).2 = true then bytesOf (sgL (nx t p) n k.toNat) else bytesOf []
theorem ret_str {x : ByteArray} {y z : Bool} {s : ByteArray} (h : x = s) (h' : y = z) : Ending.returned (.tuple #[.string s, .bool z]) = .returned (.tuple #[.string x, .bool y]) := by rw [h, h']

end Go.Proofs.YtmocbkpfoddffaaDoor
