/-
  NARROWER THAN 'FOR EVERY INPUT', by the rows' own cells (each row's printed sentence says how): FnExactCountFalling: laid · FnExactFallingWords: laid · FnExactFallOfResidue: laid · FnExactLeftResidues: laid · FnExactFallenResidues: laid · FnExactKeepsToResidue: laid · FnExactStrayNumbers: laid · FnExactSieveUpTo: laid.
  DERIVED. THE GIVEN ROWS OF THIS SEAT. 8 by the template 'for every input the law returns true; each argument reads behind the call as it read before'; 0 by the template 'total and deterministic' (their statements: YtencblbkbalmcaaDoorTotals.lean).
  GIVEN WITH THE SEED: the statements are not yours to turn. If you find one false, say at which input.
  Laid BY PROGRAM, IN A SANDBOX (cutbox-rows.mjs): the forced cells as the released guide's own fill.sh prints them over the translation b75dc48117a29d91… (all of the seat's roots in one cut). By AI agents, Wed Nov 11 2026. No macro, syntax, notation, axiom, sorry.
-/
import Derived.Test.YtencblbkbalmcaaDoorChecked
import GoSem.Claim
import GoSem.ClaimJoined
import GoSem.ClaimMapViews
import Derived.JoinedTies
import Derived.KernelRfl
namespace Go.Proofs.YtencblbkbalmcaaDoor
/- THE CELL 'sum', in the pinned program and in every row, IS THE sha256 OF THE DUMP (.gsa) THAT YtencblbkbalmcaaDoorProg.lean LOADS. Nothing in Lean hashes anything: it is a label: what it is worth is what the hold of that sum in a sandbox is worth. -/
noncomputable def Tryd.pinned : Pinned := { name := "ytencblbkbalmcaadoor", sum := "b75dc48117a29d91f0c77b5cd82e1eba37c66cb7baacfa4d13116ba9b158ea21", checked := Tryd.checked }
namespace Rows
def none {H : Type} : Left H := { results := [], args := [] }

/- WHAT THE LISTED PACKAGE-LEVEL VARIABLES READ AS WHEN THE CALL BEGINS. Each datum BY PROGRAM (the guide's laid-datum.mjs) off the statement by which the dump's own 'gosem.cut.vars' lays the variable. In a bare row this is a premise. The card (YtencblbkbalmcaaDoorCards.lean) ties it to the program's text. -/
def laid_loop_example_g01293_impl_powersOfTwo {H : Type} : DataW H := .agg [.lit (.int .i64 1), .lit (.int .i64 2), .lit (.int .i64 4), .lit (.int .i64 8), .lit (.int .i64 16), .lit (.int .i64 32), .lit (.int .i64 64), .lit (.int .i64 128), .lit (.int .i64 256), .lit (.int .i64 512), .lit (.int .i64 1024), .lit (.int .i64 2048), .lit (.int .i64 4096), .lit (.int .i64 8192), .lit (.int .i64 16384), .lit (.int .i64 32768)]

/-- 'laws.FnExactCountFalling': WHATEVER THE INPUT: true; the input reads as it did. -/
def fnExactCountFallingSpec : ChangeSpec := { name := "fnExactCountFalling", vars := ["loop.example/g01293/impl.powersOfTwo"], fn := fun _ => fun
  | [d1, d2, g1] => { results := [.lit (.bool true)], args := [d1, d2], vars := [g1] }
  | _ => none }
def fnExactCountFallingRow : OpenClaim := { program := "ytencblbkbalmcaadoor", sum := "b75dc48117a29d91f0c77b5cd82e1eba37c66cb7baacfa4d13116ba9b158ea21", func := "loop.example/g01293/laws.FnExactCountFalling", spec := "fnExactCountFalling", named := ["loop.example/g01293/impl.powersOfTwo"], apart := false, laid := [("loop.example/g01293/impl.powersOfTwo", laid_loop_example_g01293_impl_powersOfTwo)] }
def FnExactCountFallingSaid : Prop := fnExactCountFallingRow.holds Tryd.pinned (OpenSpec.ofChange fnExactCountFallingSpec)

/-- ITS FALSE NEIGHBOUR: 'it returns false'. Refute it at one input. -/
def fnExactCountFallingWrong : ChangeSpec := { name := "fnExactCountFalling", vars := ["loop.example/g01293/impl.powersOfTwo"], fn := fun _ => fun
  | [d1, d2, g1] => { results := [.lit (.bool false)], args := [d1, d2], vars := [g1] }
  | _ => none }
def FnExactCountFallingWrongFalsely : Prop := fnExactCountFallingRow.holds Tryd.pinned (OpenSpec.ofChange fnExactCountFallingWrong)

/-- 'laws.FnExactFallingWords': WHATEVER THE INPUT: true; the input reads as it did. -/
def fnExactFallingWordsSpec : ChangeSpec := { name := "fnExactFallingWords", vars := ["loop.example/g01293/impl.powersOfTwo"], fn := fun _ => fun
  | [d1, d2, g1] => { results := [.lit (.bool true)], args := [d1, d2], vars := [g1] }
  | _ => none }
def fnExactFallingWordsRow : OpenClaim := { program := "ytencblbkbalmcaadoor", sum := "b75dc48117a29d91f0c77b5cd82e1eba37c66cb7baacfa4d13116ba9b158ea21", func := "loop.example/g01293/laws.FnExactFallingWords", spec := "fnExactFallingWords", named := ["loop.example/g01293/impl.powersOfTwo"], apart := false, laid := [("loop.example/g01293/impl.powersOfTwo", laid_loop_example_g01293_impl_powersOfTwo)] }
def FnExactFallingWordsSaid : Prop := fnExactFallingWordsRow.holds Tryd.pinned (OpenSpec.ofChange fnExactFallingWordsSpec)

/-- ITS FALSE NEIGHBOUR: 'it returns false'. Refute it at one input. -/
def fnExactFallingWordsWrong : ChangeSpec := { name := "fnExactFallingWords", vars := ["loop.example/g01293/impl.powersOfTwo"], fn := fun _ => fun
  | [d1, d2, g1] => { results := [.lit (.bool false)], args := [d1, d2], vars := [g1] }
  | _ => none }
def FnExactFallingWordsWrongFalsely : Prop := fnExactFallingWordsRow.holds Tryd.pinned (OpenSpec.ofChange fnExactFallingWordsWrong)

/-- 'laws.FnExactFallOfResidue': WHATEVER THE INPUT: true; the input reads as it did. -/
def fnExactFallOfResidueSpec : ChangeSpec := { name := "fnExactFallOfResidue", vars := ["loop.example/g01293/impl.powersOfTwo"], fn := fun _ => fun
  | [d1, d2, d3, g1] => { results := [.lit (.bool true)], args := [d1, d2, d3], vars := [g1] }
  | _ => none }
def fnExactFallOfResidueRow : OpenClaim := { program := "ytencblbkbalmcaadoor", sum := "b75dc48117a29d91f0c77b5cd82e1eba37c66cb7baacfa4d13116ba9b158ea21", func := "loop.example/g01293/laws.FnExactFallOfResidue", spec := "fnExactFallOfResidue", unfollowed := true, recurses := true, named := ["loop.example/g01293/impl.powersOfTwo"], apart := false, laid := [("loop.example/g01293/impl.powersOfTwo", laid_loop_example_g01293_impl_powersOfTwo)] }
def FnExactFallOfResidueSaid : Prop := fnExactFallOfResidueRow.holds Tryd.pinned (OpenSpec.ofChange fnExactFallOfResidueSpec)

/-- ITS FALSE NEIGHBOUR: 'it returns false'. Refute it at one input. -/
def fnExactFallOfResidueWrong : ChangeSpec := { name := "fnExactFallOfResidue", vars := ["loop.example/g01293/impl.powersOfTwo"], fn := fun _ => fun
  | [d1, d2, d3, g1] => { results := [.lit (.bool false)], args := [d1, d2, d3], vars := [g1] }
  | _ => none }
def FnExactFallOfResidueWrongFalsely : Prop := fnExactFallOfResidueRow.holds Tryd.pinned (OpenSpec.ofChange fnExactFallOfResidueWrong)

/-- 'laws.FnExactLeftResidues': WHATEVER THE INPUT: true; the input reads as it did. -/
def fnExactLeftResiduesSpec : ChangeSpec := { name := "fnExactLeftResidues", vars := ["loop.example/g01293/impl.powersOfTwo"], fn := fun _ => fun
  | [d1, d2, g1] => { results := [.lit (.bool true)], args := [d1, d2], vars := [g1] }
  | _ => none }
def fnExactLeftResiduesRow : OpenClaim := { program := "ytencblbkbalmcaadoor", sum := "b75dc48117a29d91f0c77b5cd82e1eba37c66cb7baacfa4d13116ba9b158ea21", func := "loop.example/g01293/laws.FnExactLeftResidues", spec := "fnExactLeftResidues", unfollowed := true, recurses := true, named := ["loop.example/g01293/impl.powersOfTwo"], apart := false, laid := [("loop.example/g01293/impl.powersOfTwo", laid_loop_example_g01293_impl_powersOfTwo)] }
def FnExactLeftResiduesSaid : Prop := fnExactLeftResiduesRow.holds Tryd.pinned (OpenSpec.ofChange fnExactLeftResiduesSpec)

/-- ITS FALSE NEIGHBOUR: 'it returns false'. Refute it at one input. -/
def fnExactLeftResiduesWrong : ChangeSpec := { name := "fnExactLeftResidues", vars := ["loop.example/g01293/impl.powersOfTwo"], fn := fun _ => fun
  | [d1, d2, g1] => { results := [.lit (.bool false)], args := [d1, d2], vars := [g1] }
  | _ => none }
def FnExactLeftResiduesWrongFalsely : Prop := fnExactLeftResiduesRow.holds Tryd.pinned (OpenSpec.ofChange fnExactLeftResiduesWrong)

/-- 'laws.FnExactFallenResidues': WHATEVER THE INPUT: true; the input reads as it did. -/
def fnExactFallenResiduesSpec : ChangeSpec := { name := "fnExactFallenResidues", vars := ["loop.example/g01293/impl.powersOfTwo"], fn := fun _ => fun
  | [d1, d2, g1] => { results := [.lit (.bool true)], args := [d1, d2], vars := [g1] }
  | _ => none }
def fnExactFallenResiduesRow : OpenClaim := { program := "ytencblbkbalmcaadoor", sum := "b75dc48117a29d91f0c77b5cd82e1eba37c66cb7baacfa4d13116ba9b158ea21", func := "loop.example/g01293/laws.FnExactFallenResidues", spec := "fnExactFallenResidues", unfollowed := true, recurses := true, named := ["loop.example/g01293/impl.powersOfTwo"], apart := false, laid := [("loop.example/g01293/impl.powersOfTwo", laid_loop_example_g01293_impl_powersOfTwo)] }
def FnExactFallenResiduesSaid : Prop := fnExactFallenResiduesRow.holds Tryd.pinned (OpenSpec.ofChange fnExactFallenResiduesSpec)

/-- ITS FALSE NEIGHBOUR: 'it returns false'. Refute it at one input. -/
def fnExactFallenResiduesWrong : ChangeSpec := { name := "fnExactFallenResidues", vars := ["loop.example/g01293/impl.powersOfTwo"], fn := fun _ => fun
  | [d1, d2, g1] => { results := [.lit (.bool false)], args := [d1, d2], vars := [g1] }
  | _ => none }
def FnExactFallenResiduesWrongFalsely : Prop := fnExactFallenResiduesRow.holds Tryd.pinned (OpenSpec.ofChange fnExactFallenResiduesWrong)

/-- 'laws.FnExactKeepsToResidue': WHATEVER THE INPUT: true; the input reads as it did. -/
def fnExactKeepsToResidueSpec : ChangeSpec := { name := "fnExactKeepsToResidue", vars := ["loop.example/g01293/impl.powersOfTwo"], fn := fun _ => fun
  | [d1, d2, d3, g1] => { results := [.lit (.bool true)], args := [d1, d2, d3], vars := [g1] }
  | _ => none }
def fnExactKeepsToResidueRow : OpenClaim := { program := "ytencblbkbalmcaadoor", sum := "b75dc48117a29d91f0c77b5cd82e1eba37c66cb7baacfa4d13116ba9b158ea21", func := "loop.example/g01293/laws.FnExactKeepsToResidue", spec := "fnExactKeepsToResidue", unfollowed := true, recurses := true, named := ["loop.example/g01293/impl.powersOfTwo"], apart := false, laid := [("loop.example/g01293/impl.powersOfTwo", laid_loop_example_g01293_impl_powersOfTwo)] }
def FnExactKeepsToResidueSaid : Prop := fnExactKeepsToResidueRow.holds Tryd.pinned (OpenSpec.ofChange fnExactKeepsToResidueSpec)

/-- ITS FALSE NEIGHBOUR: 'it returns false'. Refute it at one input. -/
def fnExactKeepsToResidueWrong : ChangeSpec := { name := "fnExactKeepsToResidue", vars := ["loop.example/g01293/impl.powersOfTwo"], fn := fun _ => fun
  | [d1, d2, d3, g1] => { results := [.lit (.bool false)], args := [d1, d2, d3], vars := [g1] }
  | _ => none }
def FnExactKeepsToResidueWrongFalsely : Prop := fnExactKeepsToResidueRow.holds Tryd.pinned (OpenSpec.ofChange fnExactKeepsToResidueWrong)

/-- 'laws.FnExactStrayNumbers': WHATEVER THE INPUT: true; the input reads as it did. -/
def fnExactStrayNumbersSpec : ChangeSpec := { name := "fnExactStrayNumbers", vars := ["loop.example/g01293/impl.powersOfTwo"], fn := fun _ => fun
  | [d1, d2, d3, g1] => { results := [.lit (.bool true)], args := [d1, d2, d3], vars := [g1] }
  | _ => none }
def fnExactStrayNumbersRow : OpenClaim := { program := "ytencblbkbalmcaadoor", sum := "b75dc48117a29d91f0c77b5cd82e1eba37c66cb7baacfa4d13116ba9b158ea21", func := "loop.example/g01293/laws.FnExactStrayNumbers", spec := "fnExactStrayNumbers", unfollowed := true, recurses := true, named := ["loop.example/g01293/impl.powersOfTwo"], apart := false, laid := [("loop.example/g01293/impl.powersOfTwo", laid_loop_example_g01293_impl_powersOfTwo)] }
def FnExactStrayNumbersSaid : Prop := fnExactStrayNumbersRow.holds Tryd.pinned (OpenSpec.ofChange fnExactStrayNumbersSpec)

/-- ITS FALSE NEIGHBOUR: 'it returns false'. Refute it at one input. -/
def fnExactStrayNumbersWrong : ChangeSpec := { name := "fnExactStrayNumbers", vars := ["loop.example/g01293/impl.powersOfTwo"], fn := fun _ => fun
  | [d1, d2, d3, g1] => { results := [.lit (.bool false)], args := [d1, d2, d3], vars := [g1] }
  | _ => none }
def FnExactStrayNumbersWrongFalsely : Prop := fnExactStrayNumbersRow.holds Tryd.pinned (OpenSpec.ofChange fnExactStrayNumbersWrong)

/-- 'laws.FnExactSieveUpTo': WHATEVER THE INPUT: true; the input reads as it did. -/
def fnExactSieveUpToSpec : ChangeSpec := { name := "fnExactSieveUpTo", vars := ["loop.example/g01293/impl.powersOfTwo"], fn := fun _ => fun
  | [d1, d2, d3, g1] => { results := [.lit (.bool true)], args := [d1, d2, d3], vars := [g1] }
  | _ => none }
def fnExactSieveUpToRow : OpenClaim := { program := "ytencblbkbalmcaadoor", sum := "b75dc48117a29d91f0c77b5cd82e1eba37c66cb7baacfa4d13116ba9b158ea21", func := "loop.example/g01293/laws.FnExactSieveUpTo", spec := "fnExactSieveUpTo", unfollowed := true, recurses := true, named := ["loop.example/g01293/impl.powersOfTwo"], apart := false, laid := [("loop.example/g01293/impl.powersOfTwo", laid_loop_example_g01293_impl_powersOfTwo)] }
def FnExactSieveUpToSaid : Prop := fnExactSieveUpToRow.holds Tryd.pinned (OpenSpec.ofChange fnExactSieveUpToSpec)

/-- ITS FALSE NEIGHBOUR: 'it returns false'. Refute it at one input. -/
def fnExactSieveUpToWrong : ChangeSpec := { name := "fnExactSieveUpTo", vars := ["loop.example/g01293/impl.powersOfTwo"], fn := fun _ => fun
  | [d1, d2, d3, g1] => { results := [.lit (.bool false)], args := [d1, d2, d3], vars := [g1] }
  | _ => none }
def FnExactSieveUpToWrongFalsely : Prop := fnExactSieveUpToRow.holds Tryd.pinned (OpenSpec.ofChange fnExactSieveUpToWrong)

/- THE SECOND FORM. 'bulk': how many values and letters a reading holds, each counted each time it is reached (what is shared counts as often as it is met; a slice's spare places count too). A statement '..UptoSaid' is the law's where the arguments, and the package variables that the reading takes, are together of bulk at most 1048576: NARROWER than '..Said'. Prove '..Said' where nothing that the law and all that it calls make is longer than what came in: it says more and counts as full. Else prove '..UptoSaid'. A law counts once. -/
mutual
def uptoBulk {H : Type} : DataW H → Nat
  | .lit (.string bytes) => bytes.length + 1
  | .lit _ => 1
  | .nil => 1
  | .ptr d => uptoBulk d + 1
  | .slice elems spare => uptoBulkAll elems + uptoBulkAll spare + 1
  | .agg parts => uptoBulkAll parts + 1
  | .iface _ d => uptoBulk d + 1
  | .map entries => uptoBulkEntries entries + 1
  | .held _ => 1
def uptoBulkAll {H : Type} : List (DataW H) → Nat
  | [] => 0
  | d :: r => uptoBulk d + uptoBulkAll r
def uptoBulkEntries {H : Type} : List (Lit × DataW H) → Nat
  | [] => 0
  | x :: r => uptoBulkEntry x + uptoBulkEntries r
def uptoBulkEntry {H : Type} : Lit × DataW H → Nat
  | (.string bytes, d) => bytes.length + uptoBulk d + 1
  | (_, d) => uptoBulk d + 1
 end
def uptoSmall : (H : Type) → List (DataW H) → Bool := fun _ ds => decide (uptoBulkAll ds ≤ 1048576)
def OpenSpec.upto (s : _root_.Go.ChangeSpec) : _root_.Go.OpenSpec := { _root_.Go.OpenSpec.ofChange s with cond := some uptoSmall }

/-- 'laws.FnExactCountFalling', WHERE WHAT IT READS IS OF BULK AT MOST 1048576: true; the input reads as it did. -/
def fnExactCountFallingUptoRow : OpenClaim := { program := "ytencblbkbalmcaadoor", sum := "b75dc48117a29d91f0c77b5cd82e1eba37c66cb7baacfa4d13116ba9b158ea21", func := "loop.example/g01293/laws.FnExactCountFalling", spec := "fnExactCountFalling", named := ["loop.example/g01293/impl.powersOfTwo"], apart := false, laid := [("loop.example/g01293/impl.powersOfTwo", laid_loop_example_g01293_impl_powersOfTwo)], narrowed := true }
def FnExactCountFallingUptoSaid : Prop := fnExactCountFallingUptoRow.holds Tryd.pinned (OpenSpec.upto fnExactCountFallingSpec)

/-- 'laws.FnExactFallingWords', WHERE WHAT IT READS IS OF BULK AT MOST 1048576: true; the input reads as it did. -/
def fnExactFallingWordsUptoRow : OpenClaim := { program := "ytencblbkbalmcaadoor", sum := "b75dc48117a29d91f0c77b5cd82e1eba37c66cb7baacfa4d13116ba9b158ea21", func := "loop.example/g01293/laws.FnExactFallingWords", spec := "fnExactFallingWords", named := ["loop.example/g01293/impl.powersOfTwo"], apart := false, laid := [("loop.example/g01293/impl.powersOfTwo", laid_loop_example_g01293_impl_powersOfTwo)], narrowed := true }
def FnExactFallingWordsUptoSaid : Prop := fnExactFallingWordsUptoRow.holds Tryd.pinned (OpenSpec.upto fnExactFallingWordsSpec)

/-- 'laws.FnExactFallOfResidue', WHERE WHAT IT READS IS OF BULK AT MOST 1048576: true; the input reads as it did. -/
def fnExactFallOfResidueUptoRow : OpenClaim := { program := "ytencblbkbalmcaadoor", sum := "b75dc48117a29d91f0c77b5cd82e1eba37c66cb7baacfa4d13116ba9b158ea21", func := "loop.example/g01293/laws.FnExactFallOfResidue", spec := "fnExactFallOfResidue", unfollowed := true, recurses := true, named := ["loop.example/g01293/impl.powersOfTwo"], apart := false, laid := [("loop.example/g01293/impl.powersOfTwo", laid_loop_example_g01293_impl_powersOfTwo)], narrowed := true }
def FnExactFallOfResidueUptoSaid : Prop := fnExactFallOfResidueUptoRow.holds Tryd.pinned (OpenSpec.upto fnExactFallOfResidueSpec)

/-- 'laws.FnExactLeftResidues', WHERE WHAT IT READS IS OF BULK AT MOST 1048576: true; the input reads as it did. -/
def fnExactLeftResiduesUptoRow : OpenClaim := { program := "ytencblbkbalmcaadoor", sum := "b75dc48117a29d91f0c77b5cd82e1eba37c66cb7baacfa4d13116ba9b158ea21", func := "loop.example/g01293/laws.FnExactLeftResidues", spec := "fnExactLeftResidues", unfollowed := true, recurses := true, named := ["loop.example/g01293/impl.powersOfTwo"], apart := false, laid := [("loop.example/g01293/impl.powersOfTwo", laid_loop_example_g01293_impl_powersOfTwo)], narrowed := true }
def FnExactLeftResiduesUptoSaid : Prop := fnExactLeftResiduesUptoRow.holds Tryd.pinned (OpenSpec.upto fnExactLeftResiduesSpec)

/-- 'laws.FnExactFallenResidues', WHERE WHAT IT READS IS OF BULK AT MOST 1048576: true; the input reads as it did. -/
def fnExactFallenResiduesUptoRow : OpenClaim := { program := "ytencblbkbalmcaadoor", sum := "b75dc48117a29d91f0c77b5cd82e1eba37c66cb7baacfa4d13116ba9b158ea21", func := "loop.example/g01293/laws.FnExactFallenResidues", spec := "fnExactFallenResidues", unfollowed := true, recurses := true, named := ["loop.example/g01293/impl.powersOfTwo"], apart := false, laid := [("loop.example/g01293/impl.powersOfTwo", laid_loop_example_g01293_impl_powersOfTwo)], narrowed := true }
def FnExactFallenResiduesUptoSaid : Prop := fnExactFallenResiduesUptoRow.holds Tryd.pinned (OpenSpec.upto fnExactFallenResiduesSpec)

/-- 'laws.FnExactKeepsToResidue', WHERE WHAT IT READS IS OF BULK AT MOST 1048576: true; the input reads as it did. -/
def fnExactKeepsToResidueUptoRow : OpenClaim := { program := "ytencblbkbalmcaadoor", sum := "b75dc48117a29d91f0c77b5cd82e1eba37c66cb7baacfa4d13116ba9b158ea21", func := "loop.example/g01293/laws.FnExactKeepsToResidue", spec := "fnExactKeepsToResidue", unfollowed := true, recurses := true, named := ["loop.example/g01293/impl.powersOfTwo"], apart := false, laid := [("loop.example/g01293/impl.powersOfTwo", laid_loop_example_g01293_impl_powersOfTwo)], narrowed := true }
def FnExactKeepsToResidueUptoSaid : Prop := fnExactKeepsToResidueUptoRow.holds Tryd.pinned (OpenSpec.upto fnExactKeepsToResidueSpec)

/-- 'laws.FnExactStrayNumbers', WHERE WHAT IT READS IS OF BULK AT MOST 1048576: true; the input reads as it did. -/
def fnExactStrayNumbersUptoRow : OpenClaim := { program := "ytencblbkbalmcaadoor", sum := "b75dc48117a29d91f0c77b5cd82e1eba37c66cb7baacfa4d13116ba9b158ea21", func := "loop.example/g01293/laws.FnExactStrayNumbers", spec := "fnExactStrayNumbers", unfollowed := true, recurses := true, named := ["loop.example/g01293/impl.powersOfTwo"], apart := false, laid := [("loop.example/g01293/impl.powersOfTwo", laid_loop_example_g01293_impl_powersOfTwo)], narrowed := true }
def FnExactStrayNumbersUptoSaid : Prop := fnExactStrayNumbersUptoRow.holds Tryd.pinned (OpenSpec.upto fnExactStrayNumbersSpec)

/-- 'laws.FnExactSieveUpTo', WHERE WHAT IT READS IS OF BULK AT MOST 1048576: true; the input reads as it did. -/
def fnExactSieveUpToUptoRow : OpenClaim := { program := "ytencblbkbalmcaadoor", sum := "b75dc48117a29d91f0c77b5cd82e1eba37c66cb7baacfa4d13116ba9b158ea21", func := "loop.example/g01293/laws.FnExactSieveUpTo", spec := "fnExactSieveUpTo", unfollowed := true, recurses := true, named := ["loop.example/g01293/impl.powersOfTwo"], apart := false, laid := [("loop.example/g01293/impl.powersOfTwo", laid_loop_example_g01293_impl_powersOfTwo)], narrowed := true }
def FnExactSieveUpToUptoSaid : Prop := fnExactSieveUpToUptoRow.holds Tryd.pinned (OpenSpec.upto fnExactSieveUpToSpec)

end Rows
end Go.Proofs.YtencblbkbalmcaaDoor
