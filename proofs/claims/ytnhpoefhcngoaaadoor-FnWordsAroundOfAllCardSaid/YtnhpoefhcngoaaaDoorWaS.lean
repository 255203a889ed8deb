/-
  AS MANY PRIMITIVE WORDS BY THE OTHER SIGN: all words of at most ten signs.
-/
import Derived.Test.YtnhpoefhcngoaaaDoorCPrim
namespace Go.Proofs.YtnhpoefhcngoaaaDoor
open Go.RowKit
set_option linter.unusedVariables false
/-- As many primitive words have o odd signs as have all but o of them. -/
theorem prim_sym : ∀ L : Fin 11, ∀ o : Fin 11, o.val ≤ L.val → ((selX ftB L.val (2 ^ L.val)).filter (fun s => odB (o.val : Int) s.data.toList)).length = ((selX ftB L.val (2 ^ L.val)).filter (fun s => odB ((L.val : Int) - o.val) s.data.toList)).length := by decide +kernel
end Go.Proofs.YtnhpoefhcngoaaaDoor
