/-
  'maText', 'MachineText' of the model.
-/
import Derived.Test.YtgobjobppajkbaaDoorDgt
import Derived.Test.YtgobjobppajkbaaDoorBx
import Derived.Deep.CutRange
import Derived.Outline
namespace Go.Proofs.YtgobjobppajkbaaDoor
open Go.RowKit
set_option linter.unusedVariables false

/-- What stands ahead of fraction number j. -/
def mcP (ns ds : List Int) (j : Nat) : List UInt8 := if j = 0 then [] else mcT ns ds j ++ [44]
theorem mcP_next (ns ds : List Int) (j : Nat) : mcT ns ds (j + 1) = mcP ns ds j ++ frT ns ds j := by
  unfold mcP
  rcases Nat.eq_zero_or_pos j with rfl | h
  · rw [if_pos rfl, mcT_one]; rfl
  · rw [if_neg (by omega), mcT_succ ns ds h]
/-- The digits of a number. -/
def dgT (x : Int) : List UInt8 := Lib.decDigits x.toNat
theorem dgT_len {x : Int} (h : x ≤ 100000) : (dgT x).length ≤ 6 := dd_len 5 x.toNat (by omega)
theorem frT_dg (ns ds : List Int) (j : Nat) : frT ns ds j = dgT (ns.getD j 0) ++ [47] ++ dgT (ds.getD j 0) := rfl
theorem l1Num_int (x : Int) (hx : 0 ≤ x ∧ x ≤ 100000) (w : World) : Calls Tryd.prog 95 #[.int .i64 x] w fun e w' => e = .returned (.string (byt (dgT x))) ∧ Below w.heap.size w w' := by
  have := l1Num_all (x.toNat + 1) x.toNat (by omega) (by omega) w
  rwa [show ((x.toNat : Nat) : Int) = x by omega] at this
theorem ret_txt2 {x : ByteArray} {s : ByteArray} (h : x = s) : Ending.returned (.string x) = .returned (.string s) := by rw [h]

end Go.Proofs.YtgobjobppajkbaaDoor
