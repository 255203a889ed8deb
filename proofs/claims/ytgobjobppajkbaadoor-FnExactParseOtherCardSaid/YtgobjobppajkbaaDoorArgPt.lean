/-
  FROM WHAT THE STATEMENT SAYS OF AN OTHER MAP TO 'ArgO'.
-/
import Derived.Test.YtgobjobppajkbaaDoorPt
import Derived.Lib.SmallJoins
import Derived.Deep.Strs
import Derived.ChangeSlices
import Derived.ChangeOld
import Derived.Carry
import Derived.ProofKit
namespace Go.Proofs.YtgobjobppajkbaaDoor
open Go.ChangeShapes Go.WideShapes Go.RowKit Go.Joins Go.Deep
set_option linter.unusedVariables false

theorem cell_heapO {w : World} {a : Addr} {v : Value} (h : w.cell? a = some v) : a.block < w.heap.size := by
  unfold World.cell? at h
  split at h
  · rename_i hs
    exact (Array.getElem?_eq_some_iff.1 hs).1
  · cases h
theorem cellsI3 : Tryd.prog.cellsOf 3 = 1 := by kernel_rfl
end Go.Proofs.YtgobjobppajkbaaDoor
