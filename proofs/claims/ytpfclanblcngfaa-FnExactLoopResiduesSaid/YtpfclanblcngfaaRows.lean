/-
  No cell of these rows narrows 'for every input' (looked for: loops, veiled, ifaces, maps, wideKeys, modest, calm, conditions, laid).
  DERIVED. THE GIVEN ROWS OF THIS SEAT. 4 by the template 'for every input the law returns true; each argument reads behind the call as it read before'; 0 by the template 'total and deterministic' (their statements: YtpfclanblcngfaaTotals.lean).
  GIVEN WITH THE SEED: the statements are not yours to turn. If you find one false, say at which input.
  Laid BY PROGRAM, IN A SANDBOX (cutbox-rows.mjs): the forced cells as the released guide's own fill.sh prints them over the translation 01e9f2a742b6a1f9… (all of the seat's roots in one cut). By AI agents, Wed Nov 11 2026. No macro, syntax, notation, axiom, sorry.
-/
import Derived.Test.YtpfclanblcngfaaChecked
import GoSem.Claim
import GoSem.ClaimJoined
import GoSem.ClaimMapViews
import Derived.JoinedTies
import Derived.KernelRfl
namespace Go.Proofs.Ytpfclanblcngfaa
/- THE CELL 'sum', in the pinned program and in every row, IS THE sha256 OF THE DUMP (.gsa) THAT YtpfclanblcngfaaProg.lean LOADS. Nothing in Lean hashes anything: it is a label: what it is worth is what the hold of that sum in a sandbox is worth. -/
noncomputable def Try.pinned : Pinned := { name := "ytpfclanblcngfaa", sum := "01e9f2a742b6a1f99c96f6a88d94a9caa6c87e052c66031bb20fa51ea1c7c3dd", checked := Try.checked }
namespace Rows
def none {H : Type} : Left H := { results := [], args := [] }

/-- 'laws.FnExactResiduesNext': WHATEVER THE INPUT: true; the input reads as it did. -/
def fnExactResiduesNextSpec : ChangeSpec := { name := "fnExactResiduesNext", fn := fun _ => fun
  | [d1, d2, d3] => { results := [.lit (.bool true)], args := [d1, d2, d3] }
  | _ => none }
def fnExactResiduesNextRow : OpenClaim := { program := "ytpfclanblcngfaa", sum := "01e9f2a742b6a1f99c96f6a88d94a9caa6c87e052c66031bb20fa51ea1c7c3dd", func := "loop.example/g01293/laws.FnExactResiduesNext", spec := "fnExactResiduesNext", recurses := true, apart := false }
def FnExactResiduesNextSaid : Prop := fnExactResiduesNextRow.holds Try.pinned (OpenSpec.ofChange fnExactResiduesNextSpec)

/-- ITS FALSE NEIGHBOUR: 'it returns false'. Refute it at one input. -/
def fnExactResiduesNextWrong : ChangeSpec := { name := "fnExactResiduesNext", fn := fun _ => fun
  | [d1, d2, d3] => { results := [.lit (.bool false)], args := [d1, d2, d3] }
  | _ => none }
def FnExactResiduesNextWrongFalsely : Prop := fnExactResiduesNextRow.holds Try.pinned (OpenSpec.ofChange fnExactResiduesNextWrong)

/-- 'laws.FnExactResiduesReached': WHATEVER THE INPUT: true; the input reads as it did. -/
def fnExactResiduesReachedSpec : ChangeSpec := { name := "fnExactResiduesReached", fn := fun _ => fun
  | [d1, d2, d3] => { results := [.lit (.bool true)], args := [d1, d2, d3] }
  | _ => none }
def fnExactResiduesReachedRow : OpenClaim := { program := "ytpfclanblcngfaa", sum := "01e9f2a742b6a1f99c96f6a88d94a9caa6c87e052c66031bb20fa51ea1c7c3dd", func := "loop.example/g01293/laws.FnExactResiduesReached", spec := "fnExactResiduesReached", unfollowed := true, recurses := true, apart := false }
def FnExactResiduesReachedSaid : Prop := fnExactResiduesReachedRow.holds Try.pinned (OpenSpec.ofChange fnExactResiduesReachedSpec)

/-- ITS FALSE NEIGHBOUR: 'it returns false'. Refute it at one input. -/
def fnExactResiduesReachedWrong : ChangeSpec := { name := "fnExactResiduesReached", fn := fun _ => fun
  | [d1, d2, d3] => { results := [.lit (.bool false)], args := [d1, d2, d3] }
  | _ => none }
def FnExactResiduesReachedWrongFalsely : Prop := fnExactResiduesReachedRow.holds Try.pinned (OpenSpec.ofChange fnExactResiduesReachedWrong)

/-- 'laws.FnExactResiduesNever': WHATEVER THE INPUT: true; the input reads as it did. -/
def fnExactResiduesNeverSpec : ChangeSpec := { name := "fnExactResiduesNever", fn := fun _ => fun
  | [d1, d2] => { results := [.lit (.bool true)], args := [d1, d2] }
  | _ => none }
def fnExactResiduesNeverRow : OpenClaim := { program := "ytpfclanblcngfaa", sum := "01e9f2a742b6a1f99c96f6a88d94a9caa6c87e052c66031bb20fa51ea1c7c3dd", func := "loop.example/g01293/laws.FnExactResiduesNever", spec := "fnExactResiduesNever", unfollowed := true, recurses := true, apart := false }
def FnExactResiduesNeverSaid : Prop := fnExactResiduesNeverRow.holds Try.pinned (OpenSpec.ofChange fnExactResiduesNeverSpec)

/-- ITS FALSE NEIGHBOUR: 'it returns false'. Refute it at one input. -/
def fnExactResiduesNeverWrong : ChangeSpec := { name := "fnExactResiduesNever", fn := fun _ => fun
  | [d1, d2] => { results := [.lit (.bool false)], args := [d1, d2] }
  | _ => none }
def FnExactResiduesNeverWrongFalsely : Prop := fnExactResiduesNeverRow.holds Try.pinned (OpenSpec.ofChange fnExactResiduesNeverWrong)

/-- 'laws.FnExactLoopResidues': WHATEVER THE INPUT: true; the input reads as it did. -/
def fnExactLoopResiduesSpec : ChangeSpec := { name := "fnExactLoopResidues", fn := fun _ => fun
  | [d1, d2] => { results := [.lit (.bool true)], args := [d1, d2] }
  | _ => none }
def fnExactLoopResiduesRow : OpenClaim := { program := "ytpfclanblcngfaa", sum := "01e9f2a742b6a1f99c96f6a88d94a9caa6c87e052c66031bb20fa51ea1c7c3dd", func := "loop.example/g01293/laws.FnExactLoopResidues", spec := "fnExactLoopResidues", unfollowed := true, recurses := true, apart := false }
def FnExactLoopResiduesSaid : Prop := fnExactLoopResiduesRow.holds Try.pinned (OpenSpec.ofChange fnExactLoopResiduesSpec)

/-- ITS FALSE NEIGHBOUR: 'it returns false'. Refute it at one input. -/
def fnExactLoopResiduesWrong : ChangeSpec := { name := "fnExactLoopResidues", fn := fun _ => fun
  | [d1, d2] => { results := [.lit (.bool false)], args := [d1, d2] }
  | _ => none }
def FnExactLoopResiduesWrongFalsely : Prop := fnExactLoopResiduesRow.holds Try.pinned (OpenSpec.ofChange fnExactLoopResiduesWrong)

/- THE SECOND FORM. 'bulk': how many values and letters a reading holds, each counted each time it is reached (what is shared counts as often as it is met; a slice's spare places count too). A statement '..UptoSaid' is the law's where the arguments, and the package variables that the reading takes, are together of bulk at most 1048576: NARROWER than '..Said'. Prove '..Said' where nothing that the law and all that it calls make is longer than what came in: it says more and counts as full. Else prove '..UptoSaid'. A law counts once. -/
mutual
def uptoBulk {H : Type} : DataW H → Nat
  | .lit (.string bytes) => bytes.length + 1
  | .lit _ => 1
  | .nil => 1
  | .ptr d => uptoBulk d + 1
  | .slice elems spare => uptoBulkAll elems + uptoBulkAll spare + 1
  | .agg parts => uptoBulkAll parts + 1
  | .iface _ d => uptoBulk d + 1
  | .map entries => uptoBulkEntries entries + 1
  | .held _ => 1
def uptoBulkAll {H : Type} : List (DataW H) → Nat
  | [] => 0
  | d :: r => uptoBulk d + uptoBulkAll r
def uptoBulkEntries {H : Type} : List (Lit × DataW H) → Nat
  | [] => 0
  | x :: r => uptoBulkEntry x + uptoBulkEntries r
def uptoBulkEntry {H : Type} : Lit × DataW H → Nat
  | (.string bytes, d) => bytes.length + uptoBulk d + 1
  | (_, d) => uptoBulk d + 1
 end
def uptoSmall : (H : Type) → List (DataW H) → Bool := fun _ ds => decide (uptoBulkAll ds ≤ 1048576)
def OpenSpec.upto (s : _root_.Go.ChangeSpec) : _root_.Go.OpenSpec := { _root_.Go.OpenSpec.ofChange s with cond := some uptoSmall }

/-- 'laws.FnExactResiduesNext', WHERE WHAT IT READS IS OF BULK AT MOST 1048576: true; the input reads as it did. -/
def fnExactResiduesNextUptoRow : OpenClaim := { program := "ytpfclanblcngfaa", sum := "01e9f2a742b6a1f99c96f6a88d94a9caa6c87e052c66031bb20fa51ea1c7c3dd", func := "loop.example/g01293/laws.FnExactResiduesNext", spec := "fnExactResiduesNext", recurses := true, apart := false, narrowed := true }
def FnExactResiduesNextUptoSaid : Prop := fnExactResiduesNextUptoRow.holds Try.pinned (OpenSpec.upto fnExactResiduesNextSpec)

/-- 'laws.FnExactResiduesReached', WHERE WHAT IT READS IS OF BULK AT MOST 1048576: true; the input reads as it did. -/
def fnExactResiduesReachedUptoRow : OpenClaim := { program := "ytpfclanblcngfaa", sum := "01e9f2a742b6a1f99c96f6a88d94a9caa6c87e052c66031bb20fa51ea1c7c3dd", func := "loop.example/g01293/laws.FnExactResiduesReached", spec := "fnExactResiduesReached", unfollowed := true, recurses := true, apart := false, narrowed := true }
def FnExactResiduesReachedUptoSaid : Prop := fnExactResiduesReachedUptoRow.holds Try.pinned (OpenSpec.upto fnExactResiduesReachedSpec)

/-- 'laws.FnExactResiduesNever', WHERE WHAT IT READS IS OF BULK AT MOST 1048576: true; the input reads as it did. -/
def fnExactResiduesNeverUptoRow : OpenClaim := { program := "ytpfclanblcngfaa", sum := "01e9f2a742b6a1f99c96f6a88d94a9caa6c87e052c66031bb20fa51ea1c7c3dd", func := "loop.example/g01293/laws.FnExactResiduesNever", spec := "fnExactResiduesNever", unfollowed := true, recurses := true, apart := false, narrowed := true }
def FnExactResiduesNeverUptoSaid : Prop := fnExactResiduesNeverUptoRow.holds Try.pinned (OpenSpec.upto fnExactResiduesNeverSpec)

/-- 'laws.FnExactLoopResidues', WHERE WHAT IT READS IS OF BULK AT MOST 1048576: true; the input reads as it did. -/
def fnExactLoopResiduesUptoRow : OpenClaim := { program := "ytpfclanblcngfaa", sum := "01e9f2a742b6a1f99c96f6a88d94a9caa6c87e052c66031bb20fa51ea1c7c3dd", func := "loop.example/g01293/laws.FnExactLoopResidues", spec := "fnExactLoopResidues", unfollowed := true, recurses := true, apart := false, narrowed := true }
def FnExactLoopResiduesUptoSaid : Prop := fnExactLoopResiduesUptoRow.holds Try.pinned (OpenSpec.upto fnExactLoopResiduesSpec)

end Rows
end Go.Proofs.Ytpfclanblcngfaa
