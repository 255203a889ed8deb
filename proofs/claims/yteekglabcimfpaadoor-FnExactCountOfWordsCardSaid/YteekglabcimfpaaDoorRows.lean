/-
  NARROWER THAN 'FOR EVERY INPUT', by the rows' own cells (each row's printed sentence says how): FnExactResidueOfWord: laid · FnExactNumbersWithWord: laid · FnExactHasWord: laid · FnExactBehindWord: laid · FnExactNumberBehind: laid · FnExactCountOfWords: laid · FnExactJoinResidue: laid.
  DERIVED. THE GIVEN ROWS OF THIS SEAT. 7 by the template 'for every input the law returns true; each argument reads behind the call as it read before'; 0 by the template 'total and deterministic' (their statements: YteekglabcimfpaaDoorTotals.lean).
  GIVEN WITH THE SEED: the statements are not yours to turn. If you find one false, say at which input.
  Laid BY PROGRAM, IN A SANDBOX (cutbox-rows.mjs): the forced cells as the released guide's own fill.sh prints them over the translation c266a500dec11935… (all of the seat's roots in one cut). By AI agents, Wed Nov 11 2026. No macro, syntax, notation, axiom, sorry.
-/
import Derived.Test.YteekglabcimfpaaDoorChecked
import GoSem.Claim
import GoSem.ClaimJoined
import GoSem.ClaimMapViews
import Derived.JoinedTies
import Derived.KernelRfl
namespace Go.Proofs.YteekglabcimfpaaDoor
/- THE CELL 'sum', in the pinned program and in every row, IS THE sha256 OF THE DUMP (.gsa) THAT YteekglabcimfpaaDoorProg.lean LOADS. Nothing in Lean hashes anything: it is a label: what it is worth is what the hold of that sum in a sandbox is worth. -/
noncomputable def Tryd.pinned : Pinned := { name := "yteekglabcimfpaadoor", sum := "c266a500dec11935e0005f6d2b8fb76acd858d81739442bc2e1a0a93af3c4bcd", checked := Tryd.checked }
namespace Rows
def none {H : Type} : Left H := { results := [], args := [] }

/- WHAT THE LISTED PACKAGE-LEVEL VARIABLES READ AS WHEN THE CALL BEGINS. Each datum BY PROGRAM (the guide's laid-datum.mjs) off the statement by which the dump's own 'gosem.cut.vars' lays the variable. In a bare row this is a premise. The card (YteekglabcimfpaaDoorCards.lean) ties it to the program's text. -/
def laid_loop_example_g01293_impl_powersOfTwo {H : Type} : DataW H := .agg [.lit (.int .i64 1), .lit (.int .i64 2), .lit (.int .i64 4), .lit (.int .i64 8), .lit (.int .i64 16), .lit (.int .i64 32), .lit (.int .i64 64), .lit (.int .i64 128), .lit (.int .i64 256), .lit (.int .i64 512), .lit (.int .i64 1024), .lit (.int .i64 2048), .lit (.int .i64 4096), .lit (.int .i64 8192), .lit (.int .i64 16384), .lit (.int .i64 32768)]

/-- 'laws.FnExactResidueOfWord': WHATEVER THE INPUT: true; the input reads as it did. -/
def fnExactResidueOfWordSpec : ChangeSpec := { name := "fnExactResidueOfWord", vars := ["loop.example/g01293/impl.powersOfTwo"], fn := fun _ => fun
  | [d1, d2, g1] => { results := [.lit (.bool true)], args := [d1, d2], vars := [g1] }
  | _ => none }
def fnExactResidueOfWordRow : OpenClaim := { program := "yteekglabcimfpaadoor", sum := "c266a500dec11935e0005f6d2b8fb76acd858d81739442bc2e1a0a93af3c4bcd", func := "loop.example/g01293/laws.FnExactResidueOfWord", spec := "fnExactResidueOfWord", named := ["loop.example/g01293/impl.powersOfTwo"], apart := false, laid := [("loop.example/g01293/impl.powersOfTwo", laid_loop_example_g01293_impl_powersOfTwo)] }
def FnExactResidueOfWordSaid : Prop := fnExactResidueOfWordRow.holds Tryd.pinned (OpenSpec.ofChange fnExactResidueOfWordSpec)

/-- ITS FALSE NEIGHBOUR: 'it returns false'. Refute it at one input. -/
def fnExactResidueOfWordWrong : ChangeSpec := { name := "fnExactResidueOfWord", vars := ["loop.example/g01293/impl.powersOfTwo"], fn := fun _ => fun
  | [d1, d2, g1] => { results := [.lit (.bool false)], args := [d1, d2], vars := [g1] }
  | _ => none }
def FnExactResidueOfWordWrongFalsely : Prop := fnExactResidueOfWordRow.holds Tryd.pinned (OpenSpec.ofChange fnExactResidueOfWordWrong)

/-- 'laws.FnExactNumbersWithWord': WHATEVER THE INPUT: true; the input reads as it did. -/
def fnExactNumbersWithWordSpec : ChangeSpec := { name := "fnExactNumbersWithWord", vars := ["loop.example/g01293/impl.powersOfTwo"], fn := fun _ => fun
  | [d1, d2, d3, d4, g1] => { results := [.lit (.bool true)], args := [d1, d2, d3, d4], vars := [g1] }
  | _ => none }
def fnExactNumbersWithWordRow : OpenClaim := { program := "yteekglabcimfpaadoor", sum := "c266a500dec11935e0005f6d2b8fb76acd858d81739442bc2e1a0a93af3c4bcd", func := "loop.example/g01293/laws.FnExactNumbersWithWord", spec := "fnExactNumbersWithWord", named := ["loop.example/g01293/impl.powersOfTwo"], apart := false, laid := [("loop.example/g01293/impl.powersOfTwo", laid_loop_example_g01293_impl_powersOfTwo)] }
def FnExactNumbersWithWordSaid : Prop := fnExactNumbersWithWordRow.holds Tryd.pinned (OpenSpec.ofChange fnExactNumbersWithWordSpec)

/-- ITS FALSE NEIGHBOUR: 'it returns false'. Refute it at one input. -/
def fnExactNumbersWithWordWrong : ChangeSpec := { name := "fnExactNumbersWithWord", vars := ["loop.example/g01293/impl.powersOfTwo"], fn := fun _ => fun
  | [d1, d2, d3, d4, g1] => { results := [.lit (.bool false)], args := [d1, d2, d3, d4], vars := [g1] }
  | _ => none }
def FnExactNumbersWithWordWrongFalsely : Prop := fnExactNumbersWithWordRow.holds Tryd.pinned (OpenSpec.ofChange fnExactNumbersWithWordWrong)

/-- 'laws.FnExactHasWord': WHATEVER THE INPUT: true; the input reads as it did. -/
def fnExactHasWordSpec : ChangeSpec := { name := "fnExactHasWord", vars := ["loop.example/g01293/impl.powersOfTwo"], fn := fun _ => fun
  | [d1, d2, d3, g1] => { results := [.lit (.bool true)], args := [d1, d2, d3], vars := [g1] }
  | _ => none }
def fnExactHasWordRow : OpenClaim := { program := "yteekglabcimfpaadoor", sum := "c266a500dec11935e0005f6d2b8fb76acd858d81739442bc2e1a0a93af3c4bcd", func := "loop.example/g01293/laws.FnExactHasWord", spec := "fnExactHasWord", named := ["loop.example/g01293/impl.powersOfTwo"], apart := false, laid := [("loop.example/g01293/impl.powersOfTwo", laid_loop_example_g01293_impl_powersOfTwo)] }
def FnExactHasWordSaid : Prop := fnExactHasWordRow.holds Tryd.pinned (OpenSpec.ofChange fnExactHasWordSpec)

/-- ITS FALSE NEIGHBOUR: 'it returns false'. Refute it at one input. -/
def fnExactHasWordWrong : ChangeSpec := { name := "fnExactHasWord", vars := ["loop.example/g01293/impl.powersOfTwo"], fn := fun _ => fun
  | [d1, d2, d3, g1] => { results := [.lit (.bool false)], args := [d1, d2, d3], vars := [g1] }
  | _ => none }
def FnExactHasWordWrongFalsely : Prop := fnExactHasWordRow.holds Tryd.pinned (OpenSpec.ofChange fnExactHasWordWrong)

/-- 'laws.FnExactBehindWord': WHATEVER THE INPUT: true; the input reads as it did. -/
def fnExactBehindWordSpec : ChangeSpec := { name := "fnExactBehindWord", vars := ["loop.example/g01293/impl.powersOfTwo"], fn := fun _ => fun
  | [d1, d2, g1] => { results := [.lit (.bool true)], args := [d1, d2], vars := [g1] }
  | _ => none }
def fnExactBehindWordRow : OpenClaim := { program := "yteekglabcimfpaadoor", sum := "c266a500dec11935e0005f6d2b8fb76acd858d81739442bc2e1a0a93af3c4bcd", func := "loop.example/g01293/laws.FnExactBehindWord", spec := "fnExactBehindWord", named := ["loop.example/g01293/impl.powersOfTwo"], apart := false, laid := [("loop.example/g01293/impl.powersOfTwo", laid_loop_example_g01293_impl_powersOfTwo)] }
def FnExactBehindWordSaid : Prop := fnExactBehindWordRow.holds Tryd.pinned (OpenSpec.ofChange fnExactBehindWordSpec)

/-- ITS FALSE NEIGHBOUR: 'it returns false'. Refute it at one input. -/
def fnExactBehindWordWrong : ChangeSpec := { name := "fnExactBehindWord", vars := ["loop.example/g01293/impl.powersOfTwo"], fn := fun _ => fun
  | [d1, d2, g1] => { results := [.lit (.bool false)], args := [d1, d2], vars := [g1] }
  | _ => none }
def FnExactBehindWordWrongFalsely : Prop := fnExactBehindWordRow.holds Tryd.pinned (OpenSpec.ofChange fnExactBehindWordWrong)

/-- 'laws.FnExactNumberBehind': WHATEVER THE INPUT: true; the input reads as it did. -/
def fnExactNumberBehindSpec : ChangeSpec := { name := "fnExactNumberBehind", vars := ["loop.example/g01293/impl.powersOfTwo"], fn := fun _ => fun
  | [d1, d2, d3, g1] => { results := [.lit (.bool true)], args := [d1, d2, d3], vars := [g1] }
  | _ => none }
def fnExactNumberBehindRow : OpenClaim := { program := "yteekglabcimfpaadoor", sum := "c266a500dec11935e0005f6d2b8fb76acd858d81739442bc2e1a0a93af3c4bcd", func := "loop.example/g01293/laws.FnExactNumberBehind", spec := "fnExactNumberBehind", named := ["loop.example/g01293/impl.powersOfTwo"], apart := false, laid := [("loop.example/g01293/impl.powersOfTwo", laid_loop_example_g01293_impl_powersOfTwo)] }
def FnExactNumberBehindSaid : Prop := fnExactNumberBehindRow.holds Tryd.pinned (OpenSpec.ofChange fnExactNumberBehindSpec)

/-- ITS FALSE NEIGHBOUR: 'it returns false'. Refute it at one input. -/
def fnExactNumberBehindWrong : ChangeSpec := { name := "fnExactNumberBehind", vars := ["loop.example/g01293/impl.powersOfTwo"], fn := fun _ => fun
  | [d1, d2, d3, g1] => { results := [.lit (.bool false)], args := [d1, d2, d3], vars := [g1] }
  | _ => none }
def FnExactNumberBehindWrongFalsely : Prop := fnExactNumberBehindRow.holds Tryd.pinned (OpenSpec.ofChange fnExactNumberBehindWrong)

/-- 'laws.FnExactCountOfWords': WHATEVER THE INPUT: true; the input reads as it did. -/
def fnExactCountOfWordsSpec : ChangeSpec := { name := "fnExactCountOfWords", vars := ["loop.example/g01293/impl.powersOfTwo"], fn := fun _ => fun
  | [d1, d2, d3, g1] => { results := [.lit (.bool true)], args := [d1, d2, d3], vars := [g1] }
  | _ => none }
def fnExactCountOfWordsRow : OpenClaim := { program := "yteekglabcimfpaadoor", sum := "c266a500dec11935e0005f6d2b8fb76acd858d81739442bc2e1a0a93af3c4bcd", func := "loop.example/g01293/laws.FnExactCountOfWords", spec := "fnExactCountOfWords", named := ["loop.example/g01293/impl.powersOfTwo"], apart := false, laid := [("loop.example/g01293/impl.powersOfTwo", laid_loop_example_g01293_impl_powersOfTwo)] }
def FnExactCountOfWordsSaid : Prop := fnExactCountOfWordsRow.holds Tryd.pinned (OpenSpec.ofChange fnExactCountOfWordsSpec)

/-- ITS FALSE NEIGHBOUR: 'it returns false'. Refute it at one input. -/
def fnExactCountOfWordsWrong : ChangeSpec := { name := "fnExactCountOfWords", vars := ["loop.example/g01293/impl.powersOfTwo"], fn := fun _ => fun
  | [d1, d2, d3, g1] => { results := [.lit (.bool false)], args := [d1, d2, d3], vars := [g1] }
  | _ => none }
def FnExactCountOfWordsWrongFalsely : Prop := fnExactCountOfWordsRow.holds Tryd.pinned (OpenSpec.ofChange fnExactCountOfWordsWrong)

/-- 'laws.FnExactJoinResidue': WHATEVER THE INPUT: true; the input reads as it did. -/
def fnExactJoinResidueSpec : ChangeSpec := { name := "fnExactJoinResidue", vars := ["loop.example/g01293/impl.powersOfTwo"], fn := fun _ => fun
  | [d1, d2, d3, g1] => { results := [.lit (.bool true)], args := [d1, d2, d3], vars := [g1] }
  | _ => none }
def fnExactJoinResidueRow : OpenClaim := { program := "yteekglabcimfpaadoor", sum := "c266a500dec11935e0005f6d2b8fb76acd858d81739442bc2e1a0a93af3c4bcd", func := "loop.example/g01293/laws.FnExactJoinResidue", spec := "fnExactJoinResidue", named := ["loop.example/g01293/impl.powersOfTwo"], apart := false, laid := [("loop.example/g01293/impl.powersOfTwo", laid_loop_example_g01293_impl_powersOfTwo)] }
def FnExactJoinResidueSaid : Prop := fnExactJoinResidueRow.holds Tryd.pinned (OpenSpec.ofChange fnExactJoinResidueSpec)

/-- ITS FALSE NEIGHBOUR: 'it returns false'. Refute it at one input. -/
def fnExactJoinResidueWrong : ChangeSpec := { name := "fnExactJoinResidue", vars := ["loop.example/g01293/impl.powersOfTwo"], fn := fun _ => fun
  | [d1, d2, d3, g1] => { results := [.lit (.bool false)], args := [d1, d2, d3], vars := [g1] }
  | _ => none }
def FnExactJoinResidueWrongFalsely : Prop := fnExactJoinResidueRow.holds Tryd.pinned (OpenSpec.ofChange fnExactJoinResidueWrong)

/- THE SECOND FORM. 'bulk': how many values and letters a reading holds, each counted each time it is reached (what is shared counts as often as it is met; a slice's spare places count too). A statement '..UptoSaid' is the law's where the arguments, and the package variables that the reading takes, are together of bulk at most 1048576: NARROWER than '..Said'. Prove '..Said' where nothing that the law and all that it calls make is longer than what came in: it says more and counts as full. Else prove '..UptoSaid'. A law counts once. -/
mutual
def uptoBulk {H : Type} : DataW H → Nat
  | .lit (.string bytes) => bytes.length + 1
  | .lit _ => 1
  | .nil => 1
  | .ptr d => uptoBulk d + 1
  | .slice elems spare => uptoBulkAll elems + uptoBulkAll spare + 1
  | .agg parts => uptoBulkAll parts + 1
  | .iface _ d => uptoBulk d + 1
  | .map entries => uptoBulkEntries entries + 1
  | .held _ => 1
def uptoBulkAll {H : Type} : List (DataW H) → Nat
  | [] => 0
  | d :: r => uptoBulk d + uptoBulkAll r
def uptoBulkEntries {H : Type} : List (Lit × DataW H) → Nat
  | [] => 0
  | x :: r => uptoBulkEntry x + uptoBulkEntries r
def uptoBulkEntry {H : Type} : Lit × DataW H → Nat
  | (.string bytes, d) => bytes.length + uptoBulk d + 1
  | (_, d) => uptoBulk d + 1
 end
def uptoSmall : (H : Type) → List (DataW H) → Bool := fun _ ds => decide (uptoBulkAll ds ≤ 1048576)
def OpenSpec.upto (s : _root_.Go.ChangeSpec) : _root_.Go.OpenSpec := { _root_.Go.OpenSpec.ofChange s with cond := some uptoSmall }

/-- 'laws.FnExactResidueOfWord', WHERE WHAT IT READS IS OF BULK AT MOST 1048576: true; the input reads as it did. -/
def fnExactResidueOfWordUptoRow : OpenClaim := { program := "yteekglabcimfpaadoor", sum := "c266a500dec11935e0005f6d2b8fb76acd858d81739442bc2e1a0a93af3c4bcd", func := "loop.example/g01293/laws.FnExactResidueOfWord", spec := "fnExactResidueOfWord", named := ["loop.example/g01293/impl.powersOfTwo"], apart := false, laid := [("loop.example/g01293/impl.powersOfTwo", laid_loop_example_g01293_impl_powersOfTwo)], narrowed := true }
def FnExactResidueOfWordUptoSaid : Prop := fnExactResidueOfWordUptoRow.holds Tryd.pinned (OpenSpec.upto fnExactResidueOfWordSpec)

/-- 'laws.FnExactNumbersWithWord', WHERE WHAT IT READS IS OF BULK AT MOST 1048576: true; the input reads as it did. -/
def fnExactNumbersWithWordUptoRow : OpenClaim := { program := "yteekglabcimfpaadoor", sum := "c266a500dec11935e0005f6d2b8fb76acd858d81739442bc2e1a0a93af3c4bcd", func := "loop.example/g01293/laws.FnExactNumbersWithWord", spec := "fnExactNumbersWithWord", named := ["loop.example/g01293/impl.powersOfTwo"], apart := false, laid := [("loop.example/g01293/impl.powersOfTwo", laid_loop_example_g01293_impl_powersOfTwo)], narrowed := true }
def FnExactNumbersWithWordUptoSaid : Prop := fnExactNumbersWithWordUptoRow.holds Tryd.pinned (OpenSpec.upto fnExactNumbersWithWordSpec)

/-- 'laws.FnExactHasWord', WHERE WHAT IT READS IS OF BULK AT MOST 1048576: true; the input reads as it did. -/
def fnExactHasWordUptoRow : OpenClaim := { program := "yteekglabcimfpaadoor", sum := "c266a500dec11935e0005f6d2b8fb76acd858d81739442bc2e1a0a93af3c4bcd", func := "loop.example/g01293/laws.FnExactHasWord", spec := "fnExactHasWord", named := ["loop.example/g01293/impl.powersOfTwo"], apart := false, laid := [("loop.example/g01293/impl.powersOfTwo", laid_loop_example_g01293_impl_powersOfTwo)], narrowed := true }
def FnExactHasWordUptoSaid : Prop := fnExactHasWordUptoRow.holds Tryd.pinned (OpenSpec.upto fnExactHasWordSpec)

/-- 'laws.FnExactBehindWord', WHERE WHAT IT READS IS OF BULK AT MOST 1048576: true; the input reads as it did. -/
def fnExactBehindWordUptoRow : OpenClaim := { program := "yteekglabcimfpaadoor", sum := "c266a500dec11935e0005f6d2b8fb76acd858d81739442bc2e1a0a93af3c4bcd", func := "loop.example/g01293/laws.FnExactBehindWord", spec := "fnExactBehindWord", named := ["loop.example/g01293/impl.powersOfTwo"], apart := false, laid := [("loop.example/g01293/impl.powersOfTwo", laid_loop_example_g01293_impl_powersOfTwo)], narrowed := true }
def FnExactBehindWordUptoSaid : Prop := fnExactBehindWordUptoRow.holds Tryd.pinned (OpenSpec.upto fnExactBehindWordSpec)

/-- 'laws.FnExactNumberBehind', WHERE WHAT IT READS IS OF BULK AT MOST 1048576: true; the input reads as it did. -/
def fnExactNumberBehindUptoRow : OpenClaim := { program := "yteekglabcimfpaadoor", sum := "c266a500dec11935e0005f6d2b8fb76acd858d81739442bc2e1a0a93af3c4bcd", func := "loop.example/g01293/laws.FnExactNumberBehind", spec := "fnExactNumberBehind", named := ["loop.example/g01293/impl.powersOfTwo"], apart := false, laid := [("loop.example/g01293/impl.powersOfTwo", laid_loop_example_g01293_impl_powersOfTwo)], narrowed := true }
def FnExactNumberBehindUptoSaid : Prop := fnExactNumberBehindUptoRow.holds Tryd.pinned (OpenSpec.upto fnExactNumberBehindSpec)

/-- 'laws.FnExactCountOfWords', WHERE WHAT IT READS IS OF BULK AT MOST 1048576: true; the input reads as it did. -/
def fnExactCountOfWordsUptoRow : OpenClaim := { program := "yteekglabcimfpaadoor", sum := "c266a500dec11935e0005f6d2b8fb76acd858d81739442bc2e1a0a93af3c4bcd", func := "loop.example/g01293/laws.FnExactCountOfWords", spec := "fnExactCountOfWords", named := ["loop.example/g01293/impl.powersOfTwo"], apart := false, laid := [("loop.example/g01293/impl.powersOfTwo", laid_loop_example_g01293_impl_powersOfTwo)], narrowed := true }
def FnExactCountOfWordsUptoSaid : Prop := fnExactCountOfWordsUptoRow.holds Tryd.pinned (OpenSpec.upto fnExactCountOfWordsSpec)

/-- 'laws.FnExactJoinResidue', WHERE WHAT IT READS IS OF BULK AT MOST 1048576: true; the input reads as it did. -/
def fnExactJoinResidueUptoRow : OpenClaim := { program := "yteekglabcimfpaadoor", sum := "c266a500dec11935e0005f6d2b8fb76acd858d81739442bc2e1a0a93af3c4bcd", func := "loop.example/g01293/laws.FnExactJoinResidue", spec := "fnExactJoinResidue", named := ["loop.example/g01293/impl.powersOfTwo"], apart := false, laid := [("loop.example/g01293/impl.powersOfTwo", laid_loop_example_g01293_impl_powersOfTwo)], narrowed := true }
def FnExactJoinResidueUptoSaid : Prop := fnExactJoinResidueUptoRow.holds Tryd.pinned (OpenSpec.upto fnExactJoinResidueSpec)

end Rows
end Go.Proofs.YteekglabcimfpaaDoor
