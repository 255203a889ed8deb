/-
  A RANGE OVER A STRING: small lemmas.
-/
import Derived.Test.YtgobjobppajkbaaDoorLeaf
import Derived.Test.YtgobjobppajkbaaDoorWord
import Derived.Laws.RangeAny
import Derived.Laws.IdiomStrings
namespace Go.Proofs.YtgobjobppajkbaaDoor
open Go.RowKit
set_option linter.unusedVariables false

theorem below_iter (w : World) (s : ByteArray) (k : Nat) : Below w.heap.size w (w.iter s k) := (Below.refl _ w).alloc (Nat.le_refl _) _
theorem u8_ne {c d : UInt8} (h : c ≠ d) : c.toNat ≠ d.toNat := fun e => h (UInt8.toNat_inj.1 e)

end Go.Proofs.YtgobjobppajkbaaDoor
