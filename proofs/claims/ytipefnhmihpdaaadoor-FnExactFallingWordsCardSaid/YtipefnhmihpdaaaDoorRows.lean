/-
  NARROWER THAN 'FOR EVERY INPUT', by the rows' own cells (each row's printed sentence says how): FnExactWordOf: laid · FnExactWordOfResidue: laid · FnExactCommonLength: laid · FnExactCountFalling: laid · FnExactFallingWords: laid.
  DERIVED. THE GIVEN ROWS OF THIS SEAT. 5 by the template 'for every input the law returns true; each argument reads behind the call as it read before'; 0 by the template 'total and deterministic' (their statements: YtipefnhmihpdaaaDoorTotals.lean).
  GIVEN WITH THE SEED: the statements are not yours to turn. If you find one false, say at which input.
  Laid BY PROGRAM, IN A SANDBOX (cutbox-rows.mjs): the forced cells as the released guide's own fill.sh prints them over the translation 1ecec940d64762fb… (all of the seat's roots in one cut). By AI agents, Wed Nov 11 2026. No macro, syntax, notation, axiom, sorry.
-/
import Derived.Test.YtipefnhmihpdaaaDoorChecked
import GoSem.Claim
import GoSem.ClaimJoined
import GoSem.ClaimMapViews
import Derived.JoinedTies
import Derived.KernelRfl
namespace Go.Proofs.YtipefnhmihpdaaaDoor
/- THE CELL 'sum', in the pinned program and in every row, IS THE sha256 OF THE DUMP (.gsa) THAT YtipefnhmihpdaaaDoorProg.lean LOADS. Nothing in Lean hashes anything: it is a label: what it is worth is what the hold of that sum in a sandbox is worth. -/
noncomputable def Tryd.pinned : Pinned := { name := "ytipefnhmihpdaaadoor", sum := "1ecec940d64762fb455ecc9b837c1b69e97ab69b50ec16cb0d3b6397ed6ace17", checked := Tryd.checked }
namespace Rows
def none {H : Type} : Left H := { results := [], args := [] }

/- WHAT THE LISTED PACKAGE-LEVEL VARIABLES READ AS WHEN THE CALL BEGINS. Each datum BY PROGRAM (the guide's laid-datum.mjs) off the statement by which the dump's own 'gosem.cut.vars' lays the variable. In a bare row this is a premise. The card (YtipefnhmihpdaaaDoorCards.lean) ties it to the program's text. -/
def laid_loop_example_g01293_impl_powersOfTwo {H : Type} : DataW H := .agg [.lit (.int .i64 1), .lit (.int .i64 2), .lit (.int .i64 4), .lit (.int .i64 8), .lit (.int .i64 16), .lit (.int .i64 32), .lit (.int .i64 64), .lit (.int .i64 128), .lit (.int .i64 256), .lit (.int .i64 512), .lit (.int .i64 1024), .lit (.int .i64 2048), .lit (.int .i64 4096), .lit (.int .i64 8192), .lit (.int .i64 16384), .lit (.int .i64 32768)]
def laid_math_bits_deBruijn32tab {H : Type} : DataW H := .agg [.lit (.int .u8 0), .lit (.int .u8 1), .lit (.int .u8 28), .lit (.int .u8 2), .lit (.int .u8 29), .lit (.int .u8 14), .lit (.int .u8 24), .lit (.int .u8 3), .lit (.int .u8 30), .lit (.int .u8 22), .lit (.int .u8 20), .lit (.int .u8 15), .lit (.int .u8 25), .lit (.int .u8 17), .lit (.int .u8 4), .lit (.int .u8 8), .lit (.int .u8 31), .lit (.int .u8 27), .lit (.int .u8 13), .lit (.int .u8 23), .lit (.int .u8 21), .lit (.int .u8 19), .lit (.int .u8 16), .lit (.int .u8 7), .lit (.int .u8 26), .lit (.int .u8 12), .lit (.int .u8 18), .lit (.int .u8 6), .lit (.int .u8 11), .lit (.int .u8 5), .lit (.int .u8 10), .lit (.int .u8 9)]
def laid_math_bits_deBruijn64tab {H : Type} : DataW H := .agg [.lit (.int .u8 0), .lit (.int .u8 1), .lit (.int .u8 56), .lit (.int .u8 2), .lit (.int .u8 57), .lit (.int .u8 49), .lit (.int .u8 28), .lit (.int .u8 3), .lit (.int .u8 61), .lit (.int .u8 58), .lit (.int .u8 42), .lit (.int .u8 50), .lit (.int .u8 38), .lit (.int .u8 29), .lit (.int .u8 17), .lit (.int .u8 4), .lit (.int .u8 62), .lit (.int .u8 47), .lit (.int .u8 59), .lit (.int .u8 36), .lit (.int .u8 45), .lit (.int .u8 43), .lit (.int .u8 51), .lit (.int .u8 22), .lit (.int .u8 53), .lit (.int .u8 39), .lit (.int .u8 33), .lit (.int .u8 30), .lit (.int .u8 24), .lit (.int .u8 18), .lit (.int .u8 12), .lit (.int .u8 5), .lit (.int .u8 63), .lit (.int .u8 55), .lit (.int .u8 48), .lit (.int .u8 27), .lit (.int .u8 60), .lit (.int .u8 41), .lit (.int .u8 37), .lit (.int .u8 16), .lit (.int .u8 46), .lit (.int .u8 35), .lit (.int .u8 44), .lit (.int .u8 21), .lit (.int .u8 52), .lit (.int .u8 32), .lit (.int .u8 23), .lit (.int .u8 11), .lit (.int .u8 54), .lit (.int .u8 26), .lit (.int .u8 40), .lit (.int .u8 15), .lit (.int .u8 34), .lit (.int .u8 20), .lit (.int .u8 31), .lit (.int .u8 10), .lit (.int .u8 25), .lit (.int .u8 14), .lit (.int .u8 19), .lit (.int .u8 9), .lit (.int .u8 13), .lit (.int .u8 8), .lit (.int .u8 7), .lit (.int .u8 6)]

/-- 'laws.FnExactWordOf': WHATEVER THE INPUT: true; the input reads as it did. -/
def fnExactWordOfSpec : ChangeSpec := { name := "fnExactWordOf", vars := ["loop.example/g01293/impl.powersOfTwo"], fn := fun _ => fun
  | [d1, d2, d3, g1] => { results := [.lit (.bool true)], args := [d1, d2, d3], vars := [g1] }
  | _ => none }
def fnExactWordOfRow : OpenClaim := { program := "ytipefnhmihpdaaadoor", sum := "1ecec940d64762fb455ecc9b837c1b69e97ab69b50ec16cb0d3b6397ed6ace17", func := "loop.example/g01293/laws.FnExactWordOf", spec := "fnExactWordOf", unfollowed := true, recurses := true, named := ["loop.example/g01293/impl.powersOfTwo"], apart := false, laid := [("loop.example/g01293/impl.powersOfTwo", laid_loop_example_g01293_impl_powersOfTwo)] }
def FnExactWordOfSaid : Prop := fnExactWordOfRow.holds Tryd.pinned (OpenSpec.ofChange fnExactWordOfSpec)

/-- ITS FALSE NEIGHBOUR: 'it returns false'. Refute it at one input. -/
def fnExactWordOfWrong : ChangeSpec := { name := "fnExactWordOf", vars := ["loop.example/g01293/impl.powersOfTwo"], fn := fun _ => fun
  | [d1, d2, d3, g1] => { results := [.lit (.bool false)], args := [d1, d2, d3], vars := [g1] }
  | _ => none }
def FnExactWordOfWrongFalsely : Prop := fnExactWordOfRow.holds Tryd.pinned (OpenSpec.ofChange fnExactWordOfWrong)

/-- 'laws.FnExactWordOfResidue': WHATEVER THE INPUT: true; the input reads as it did. -/
def fnExactWordOfResidueSpec : ChangeSpec := { name := "fnExactWordOfResidue", vars := ["loop.example/g01293/impl.powersOfTwo"], fn := fun _ => fun
  | [d1, d2, d3, g1] => { results := [.lit (.bool true)], args := [d1, d2, d3], vars := [g1] }
  | _ => none }
def fnExactWordOfResidueRow : OpenClaim := { program := "ytipefnhmihpdaaadoor", sum := "1ecec940d64762fb455ecc9b837c1b69e97ab69b50ec16cb0d3b6397ed6ace17", func := "loop.example/g01293/laws.FnExactWordOfResidue", spec := "fnExactWordOfResidue", unfollowed := true, recurses := true, named := ["loop.example/g01293/impl.powersOfTwo"], apart := false, laid := [("loop.example/g01293/impl.powersOfTwo", laid_loop_example_g01293_impl_powersOfTwo)] }
def FnExactWordOfResidueSaid : Prop := fnExactWordOfResidueRow.holds Tryd.pinned (OpenSpec.ofChange fnExactWordOfResidueSpec)

/-- ITS FALSE NEIGHBOUR: 'it returns false'. Refute it at one input. -/
def fnExactWordOfResidueWrong : ChangeSpec := { name := "fnExactWordOfResidue", vars := ["loop.example/g01293/impl.powersOfTwo"], fn := fun _ => fun
  | [d1, d2, d3, g1] => { results := [.lit (.bool false)], args := [d1, d2, d3], vars := [g1] }
  | _ => none }
def FnExactWordOfResidueWrongFalsely : Prop := fnExactWordOfResidueRow.holds Tryd.pinned (OpenSpec.ofChange fnExactWordOfResidueWrong)

/-- 'laws.FnExactCommonLength': WHATEVER THE INPUT: true; the input reads as it did. -/
def fnExactCommonLengthSpec : ChangeSpec := { name := "fnExactCommonLength", fn := fun _ => fun
  | [d1, d2, d3] => { results := [.lit (.bool true)], args := [d1, d2, d3] }
  | _ => none }
def fnExactCommonLengthRow : OpenClaim := { program := "ytipefnhmihpdaaadoor", sum := "1ecec940d64762fb455ecc9b837c1b69e97ab69b50ec16cb0d3b6397ed6ace17", func := "loop.example/g01293/laws.FnExactCommonLength", spec := "fnExactCommonLength", named := ["math/bits.deBruijn32tab", "math/bits.deBruijn64tab"], apart := false, laid := [("math/bits.deBruijn32tab", laid_math_bits_deBruijn32tab), ("math/bits.deBruijn64tab", laid_math_bits_deBruijn64tab)] }
def FnExactCommonLengthSaid : Prop := fnExactCommonLengthRow.holds Tryd.pinned (OpenSpec.ofChange fnExactCommonLengthSpec)

/-- ITS FALSE NEIGHBOUR: 'it returns false'. Refute it at one input. -/
def fnExactCommonLengthWrong : ChangeSpec := { name := "fnExactCommonLength", fn := fun _ => fun
  | [d1, d2, d3] => { results := [.lit (.bool false)], args := [d1, d2, d3] }
  | _ => none }
def FnExactCommonLengthWrongFalsely : Prop := fnExactCommonLengthRow.holds Tryd.pinned (OpenSpec.ofChange fnExactCommonLengthWrong)

/-- 'laws.FnExactCountFalling': WHATEVER THE INPUT: true; the input reads as it did. -/
def fnExactCountFallingSpec : ChangeSpec := { name := "fnExactCountFalling", vars := ["loop.example/g01293/impl.powersOfTwo"], fn := fun _ => fun
  | [d1, d2, g1] => { results := [.lit (.bool true)], args := [d1, d2], vars := [g1] }
  | _ => none }
def fnExactCountFallingRow : OpenClaim := { program := "ytipefnhmihpdaaadoor", sum := "1ecec940d64762fb455ecc9b837c1b69e97ab69b50ec16cb0d3b6397ed6ace17", func := "loop.example/g01293/laws.FnExactCountFalling", spec := "fnExactCountFalling", named := ["loop.example/g01293/impl.powersOfTwo"], apart := false, laid := [("loop.example/g01293/impl.powersOfTwo", laid_loop_example_g01293_impl_powersOfTwo)] }
def FnExactCountFallingSaid : Prop := fnExactCountFallingRow.holds Tryd.pinned (OpenSpec.ofChange fnExactCountFallingSpec)

/-- ITS FALSE NEIGHBOUR: 'it returns false'. Refute it at one input. -/
def fnExactCountFallingWrong : ChangeSpec := { name := "fnExactCountFalling", vars := ["loop.example/g01293/impl.powersOfTwo"], fn := fun _ => fun
  | [d1, d2, g1] => { results := [.lit (.bool false)], args := [d1, d2], vars := [g1] }
  | _ => none }
def FnExactCountFallingWrongFalsely : Prop := fnExactCountFallingRow.holds Tryd.pinned (OpenSpec.ofChange fnExactCountFallingWrong)

/-- 'laws.FnExactFallingWords': WHATEVER THE INPUT: true; the input reads as it did. -/
def fnExactFallingWordsSpec : ChangeSpec := { name := "fnExactFallingWords", vars := ["loop.example/g01293/impl.powersOfTwo"], fn := fun _ => fun
  | [d1, d2, g1] => { results := [.lit (.bool true)], args := [d1, d2], vars := [g1] }
  | _ => none }
def fnExactFallingWordsRow : OpenClaim := { program := "ytipefnhmihpdaaadoor", sum := "1ecec940d64762fb455ecc9b837c1b69e97ab69b50ec16cb0d3b6397ed6ace17", func := "loop.example/g01293/laws.FnExactFallingWords", spec := "fnExactFallingWords", named := ["loop.example/g01293/impl.powersOfTwo"], apart := false, laid := [("loop.example/g01293/impl.powersOfTwo", laid_loop_example_g01293_impl_powersOfTwo)] }
def FnExactFallingWordsSaid : Prop := fnExactFallingWordsRow.holds Tryd.pinned (OpenSpec.ofChange fnExactFallingWordsSpec)

/-- ITS FALSE NEIGHBOUR: 'it returns false'. Refute it at one input. -/
def fnExactFallingWordsWrong : ChangeSpec := { name := "fnExactFallingWords", vars := ["loop.example/g01293/impl.powersOfTwo"], fn := fun _ => fun
  | [d1, d2, g1] => { results := [.lit (.bool false)], args := [d1, d2], vars := [g1] }
  | _ => none }
def FnExactFallingWordsWrongFalsely : Prop := fnExactFallingWordsRow.holds Tryd.pinned (OpenSpec.ofChange fnExactFallingWordsWrong)

/- THE SECOND FORM. 'bulk': how many values and letters a reading holds, each counted each time it is reached (what is shared counts as often as it is met; a slice's spare places count too). A statement '..UptoSaid' is the law's where the arguments, and the package variables that the reading takes, are together of bulk at most 1048576: NARROWER than '..Said'. Prove '..Said' where nothing that the law and all that it calls make is longer than what came in: it says more and counts as full. Else prove '..UptoSaid'. A law counts once. -/
mutual
def uptoBulk {H : Type} : DataW H → Nat
  | .lit (.string bytes) => bytes.length + 1
  | .lit _ => 1
  | .nil => 1
  | .ptr d => uptoBulk d + 1
  | .slice elems spare => uptoBulkAll elems + uptoBulkAll spare + 1
  | .agg parts => uptoBulkAll parts + 1
  | .iface _ d => uptoBulk d + 1
  | .map entries => uptoBulkEntries entries + 1
  | .held _ => 1
def uptoBulkAll {H : Type} : List (DataW H) → Nat
  | [] => 0
  | d :: r => uptoBulk d + uptoBulkAll r
def uptoBulkEntries {H : Type} : List (Lit × DataW H) → Nat
  | [] => 0
  | x :: r => uptoBulkEntry x + uptoBulkEntries r
def uptoBulkEntry {H : Type} : Lit × DataW H → Nat
  | (.string bytes, d) => bytes.length + uptoBulk d + 1
  | (_, d) => uptoBulk d + 1
 end
def uptoSmall : (H : Type) → List (DataW H) → Bool := fun _ ds => decide (uptoBulkAll ds ≤ 1048576)
def OpenSpec.upto (s : _root_.Go.ChangeSpec) : _root_.Go.OpenSpec := { _root_.Go.OpenSpec.ofChange s with cond := some uptoSmall }

/-- 'laws.FnExactWordOf', WHERE WHAT IT READS IS OF BULK AT MOST 1048576: true; the input reads as it did. -/
def fnExactWordOfUptoRow : OpenClaim := { program := "ytipefnhmihpdaaadoor", sum := "1ecec940d64762fb455ecc9b837c1b69e97ab69b50ec16cb0d3b6397ed6ace17", func := "loop.example/g01293/laws.FnExactWordOf", spec := "fnExactWordOf", unfollowed := true, recurses := true, named := ["loop.example/g01293/impl.powersOfTwo"], apart := false, laid := [("loop.example/g01293/impl.powersOfTwo", laid_loop_example_g01293_impl_powersOfTwo)], narrowed := true }
def FnExactWordOfUptoSaid : Prop := fnExactWordOfUptoRow.holds Tryd.pinned (OpenSpec.upto fnExactWordOfSpec)

/-- 'laws.FnExactWordOfResidue', WHERE WHAT IT READS IS OF BULK AT MOST 1048576: true; the input reads as it did. -/
def fnExactWordOfResidueUptoRow : OpenClaim := { program := "ytipefnhmihpdaaadoor", sum := "1ecec940d64762fb455ecc9b837c1b69e97ab69b50ec16cb0d3b6397ed6ace17", func := "loop.example/g01293/laws.FnExactWordOfResidue", spec := "fnExactWordOfResidue", unfollowed := true, recurses := true, named := ["loop.example/g01293/impl.powersOfTwo"], apart := false, laid := [("loop.example/g01293/impl.powersOfTwo", laid_loop_example_g01293_impl_powersOfTwo)], narrowed := true }
def FnExactWordOfResidueUptoSaid : Prop := fnExactWordOfResidueUptoRow.holds Tryd.pinned (OpenSpec.upto fnExactWordOfResidueSpec)

/-- 'laws.FnExactCommonLength', WHERE WHAT IT READS IS OF BULK AT MOST 1048576: true; the input reads as it did. -/
def fnExactCommonLengthUptoRow : OpenClaim := { program := "ytipefnhmihpdaaadoor", sum := "1ecec940d64762fb455ecc9b837c1b69e97ab69b50ec16cb0d3b6397ed6ace17", func := "loop.example/g01293/laws.FnExactCommonLength", spec := "fnExactCommonLength", named := ["math/bits.deBruijn32tab", "math/bits.deBruijn64tab"], apart := false, laid := [("math/bits.deBruijn32tab", laid_math_bits_deBruijn32tab), ("math/bits.deBruijn64tab", laid_math_bits_deBruijn64tab)], narrowed := true }
def FnExactCommonLengthUptoSaid : Prop := fnExactCommonLengthUptoRow.holds Tryd.pinned (OpenSpec.upto fnExactCommonLengthSpec)

/-- 'laws.FnExactCountFalling', WHERE WHAT IT READS IS OF BULK AT MOST 1048576: true; the input reads as it did. -/
def fnExactCountFallingUptoRow : OpenClaim := { program := "ytipefnhmihpdaaadoor", sum := "1ecec940d64762fb455ecc9b837c1b69e97ab69b50ec16cb0d3b6397ed6ace17", func := "loop.example/g01293/laws.FnExactCountFalling", spec := "fnExactCountFalling", named := ["loop.example/g01293/impl.powersOfTwo"], apart := false, laid := [("loop.example/g01293/impl.powersOfTwo", laid_loop_example_g01293_impl_powersOfTwo)], narrowed := true }
def FnExactCountFallingUptoSaid : Prop := fnExactCountFallingUptoRow.holds Tryd.pinned (OpenSpec.upto fnExactCountFallingSpec)

/-- 'laws.FnExactFallingWords', WHERE WHAT IT READS IS OF BULK AT MOST 1048576: true; the input reads as it did. -/
def fnExactFallingWordsUptoRow : OpenClaim := { program := "ytipefnhmihpdaaadoor", sum := "1ecec940d64762fb455ecc9b837c1b69e97ab69b50ec16cb0d3b6397ed6ace17", func := "loop.example/g01293/laws.FnExactFallingWords", spec := "fnExactFallingWords", named := ["loop.example/g01293/impl.powersOfTwo"], apart := false, laid := [("loop.example/g01293/impl.powersOfTwo", laid_loop_example_g01293_impl_powersOfTwo)], narrowed := true }
def FnExactFallingWordsUptoSaid : Prop := fnExactFallingWordsUptoRow.holds Tryd.pinned (OpenSpec.upto fnExactFallingWordsSpec)

end Rows
end Go.Proofs.YtipefnhmihpdaaaDoor
