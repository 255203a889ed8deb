/-
  No cell of these rows narrows 'for every input' (looked for: loops, veiled, ifaces, maps, wideKeys, modest, calm, conditions, laid).
  DERIVED. THE GIVEN ROWS OF THIS SEAT. 10 by the template 'for every input the law returns true; each argument reads behind the call as it read before'; 0 by the template 'total and deterministic' (their statements: YtklbejejadmehaaTotals.lean).
  GIVEN WITH THE SEED: the statements are not yours to turn. If you find one false, say at which input.
  Laid BY PROGRAM, IN A SANDBOX (cutbox-rows.mjs): the forced cells as the released guide's own fill.sh prints them over the translation 71cdf2b852e83f4e… (all of the seat's roots in one cut). By AI agents, Wed Nov 11 2026. No macro, syntax, notation, axiom, sorry.
-/
import Derived.Test.YtklbejejadmehaaChecked
import GoSem.Claim
import GoSem.ClaimJoined
import GoSem.ClaimMapViews
import Derived.JoinedTies
import Derived.KernelRfl
namespace Go.Proofs.Ytklbejejadmehaa
/- THE CELL 'sum', in the pinned program and in every row, IS THE sha256 OF THE DUMP (.gsa) THAT YtklbejejadmehaaProg.lean LOADS. Nothing in Lean hashes anything: it is a label: what it is worth is what the hold of that sum in a sandbox is worth. -/
noncomputable def Try.pinned : Pinned := { name := "ytklbejejadmehaa", sum := "71cdf2b852e83f4e85a83c8cfe14d86adb6040038aa10c062cfb85c986446b94", checked := Try.checked }
namespace Rows
def none {H : Type} : Left H := { results := [], args := [] }

/-- 'laws.FnExactStepsNeeded': WHATEVER THE INPUT: true; the input reads as it did. -/
def fnExactStepsNeededSpec : ChangeSpec := { name := "fnExactStepsNeeded", fn := fun _ => fun
  | [d1, d2] => { results := [.lit (.bool true)], args := [d1, d2] }
  | _ => none }
def fnExactStepsNeededRow : OpenClaim := { program := "ytklbejejadmehaa", sum := "71cdf2b852e83f4e85a83c8cfe14d86adb6040038aa10c062cfb85c986446b94", func := "loop.example/g01293/laws.FnExactStepsNeeded", spec := "fnExactStepsNeeded", unfollowed := true, recurses := true, apart := false }
def FnExactStepsNeededSaid : Prop := fnExactStepsNeededRow.holds Try.pinned (OpenSpec.ofChange fnExactStepsNeededSpec)

/-- ITS FALSE NEIGHBOUR: 'it returns false'. Refute it at one input. -/
def fnExactStepsNeededWrong : ChangeSpec := { name := "fnExactStepsNeeded", fn := fun _ => fun
  | [d1, d2] => { results := [.lit (.bool false)], args := [d1, d2] }
  | _ => none }
def FnExactStepsNeededWrongFalsely : Prop := fnExactStepsNeededRow.holds Try.pinned (OpenSpec.ofChange fnExactStepsNeededWrong)

/-- 'laws.FnExactSlowestUpTo': WHATEVER THE INPUT: true; the input reads as it did. -/
def fnExactSlowestUpToSpec : ChangeSpec := { name := "fnExactSlowestUpTo", fn := fun _ => fun
  | [d1, d2] => { results := [.lit (.bool true)], args := [d1, d2] }
  | _ => none }
def fnExactSlowestUpToRow : OpenClaim := { program := "ytklbejejadmehaa", sum := "71cdf2b852e83f4e85a83c8cfe14d86adb6040038aa10c062cfb85c986446b94", func := "loop.example/g01293/laws.FnExactSlowestUpTo", spec := "fnExactSlowestUpTo", unfollowed := true, recurses := true, apart := false }
def FnExactSlowestUpToSaid : Prop := fnExactSlowestUpToRow.holds Try.pinned (OpenSpec.ofChange fnExactSlowestUpToSpec)

/-- ITS FALSE NEIGHBOUR: 'it returns false'. Refute it at one input. -/
def fnExactSlowestUpToWrong : ChangeSpec := { name := "fnExactSlowestUpTo", fn := fun _ => fun
  | [d1, d2] => { results := [.lit (.bool false)], args := [d1, d2] }
  | _ => none }
def FnExactSlowestUpToWrongFalsely : Prop := fnExactSlowestUpToRow.holds Try.pinned (OpenSpec.ofChange fnExactSlowestUpToWrong)

/-- 'laws.FnExactStepRecords': WHATEVER THE INPUT: true; the input reads as it did. -/
def fnExactStepRecordsSpec : ChangeSpec := { name := "fnExactStepRecords", fn := fun _ => fun
  | [d1, d2] => { results := [.lit (.bool true)], args := [d1, d2] }
  | _ => none }
def fnExactStepRecordsRow : OpenClaim := { program := "ytklbejejadmehaa", sum := "71cdf2b852e83f4e85a83c8cfe14d86adb6040038aa10c062cfb85c986446b94", func := "loop.example/g01293/laws.FnExactStepRecords", spec := "fnExactStepRecords", unfollowed := true, recurses := true, apart := false }
def FnExactStepRecordsSaid : Prop := fnExactStepRecordsRow.holds Try.pinned (OpenSpec.ofChange fnExactStepRecordsSpec)

/-- ITS FALSE NEIGHBOUR: 'it returns false'. Refute it at one input. -/
def fnExactStepRecordsWrong : ChangeSpec := { name := "fnExactStepRecords", fn := fun _ => fun
  | [d1, d2] => { results := [.lit (.bool false)], args := [d1, d2] }
  | _ => none }
def FnExactStepRecordsWrongFalsely : Prop := fnExactStepRecordsRow.holds Try.pinned (OpenSpec.ofChange fnExactStepRecordsWrong)

/-- 'laws.FnExactStepsList': WHATEVER THE INPUT: true; the input reads as it did. -/
def fnExactStepsListSpec : ChangeSpec := { name := "fnExactStepsList", fn := fun _ => fun
  | [d1, d2] => { results := [.lit (.bool true)], args := [d1, d2] }
  | _ => none }
def fnExactStepsListRow : OpenClaim := { program := "ytklbejejadmehaa", sum := "71cdf2b852e83f4e85a83c8cfe14d86adb6040038aa10c062cfb85c986446b94", func := "loop.example/g01293/laws.FnExactStepsList", spec := "fnExactStepsList", unfollowed := true, recurses := true, apart := false }
def FnExactStepsListSaid : Prop := fnExactStepsListRow.holds Try.pinned (OpenSpec.ofChange fnExactStepsListSpec)

/-- ITS FALSE NEIGHBOUR: 'it returns false'. Refute it at one input. -/
def fnExactStepsListWrong : ChangeSpec := { name := "fnExactStepsList", fn := fun _ => fun
  | [d1, d2] => { results := [.lit (.bool false)], args := [d1, d2] }
  | _ => none }
def FnExactStepsListWrongFalsely : Prop := fnExactStepsListRow.holds Try.pinned (OpenSpec.ofChange fnExactStepsListWrong)

/-- 'laws.FnExactMeanSteps': WHATEVER THE INPUT: true; the input reads as it did. -/
def fnExactMeanStepsSpec : ChangeSpec := { name := "fnExactMeanSteps", fn := fun _ => fun
  | [d1, d2] => { results := [.lit (.bool true)], args := [d1, d2] }
  | _ => none }
def fnExactMeanStepsRow : OpenClaim := { program := "ytklbejejadmehaa", sum := "71cdf2b852e83f4e85a83c8cfe14d86adb6040038aa10c062cfb85c986446b94", func := "loop.example/g01293/laws.FnExactMeanSteps", spec := "fnExactMeanSteps", unfollowed := true, recurses := true, apart := false }
def FnExactMeanStepsSaid : Prop := fnExactMeanStepsRow.holds Try.pinned (OpenSpec.ofChange fnExactMeanStepsSpec)

/-- ITS FALSE NEIGHBOUR: 'it returns false'. Refute it at one input. -/
def fnExactMeanStepsWrong : ChangeSpec := { name := "fnExactMeanSteps", fn := fun _ => fun
  | [d1, d2] => { results := [.lit (.bool false)], args := [d1, d2] }
  | _ => none }
def FnExactMeanStepsWrongFalsely : Prop := fnExactMeanStepsRow.holds Try.pinned (OpenSpec.ofChange fnExactMeanStepsWrong)

/-- 'laws.FnExactWithSteps': WHATEVER THE INPUT: true; the input reads as it did. -/
def fnExactWithStepsSpec : ChangeSpec := { name := "fnExactWithSteps", fn := fun _ => fun
  | [d1, d2, d3] => { results := [.lit (.bool true)], args := [d1, d2, d3] }
  | _ => none }
def fnExactWithStepsRow : OpenClaim := { program := "ytklbejejadmehaa", sum := "71cdf2b852e83f4e85a83c8cfe14d86adb6040038aa10c062cfb85c986446b94", func := "loop.example/g01293/laws.FnExactWithSteps", spec := "fnExactWithSteps", unfollowed := true, recurses := true, apart := false }
def FnExactWithStepsSaid : Prop := fnExactWithStepsRow.holds Try.pinned (OpenSpec.ofChange fnExactWithStepsSpec)

/-- ITS FALSE NEIGHBOUR: 'it returns false'. Refute it at one input. -/
def fnExactWithStepsWrong : ChangeSpec := { name := "fnExactWithSteps", fn := fun _ => fun
  | [d1, d2, d3] => { results := [.lit (.bool false)], args := [d1, d2, d3] }
  | _ => none }
def FnExactWithStepsWrongFalsely : Prop := fnExactWithStepsRow.holds Try.pinned (OpenSpec.ofChange fnExactWithStepsWrong)

/-- 'laws.FnExactLongestRun': WHATEVER THE INPUT: true; the input reads as it did. -/
def fnExactLongestRunSpec : ChangeSpec := { name := "fnExactLongestRun", fn := fun _ => fun
  | [d1, d2] => { results := [.lit (.bool true)], args := [d1, d2] }
  | _ => none }
def fnExactLongestRunRow : OpenClaim := { program := "ytklbejejadmehaa", sum := "71cdf2b852e83f4e85a83c8cfe14d86adb6040038aa10c062cfb85c986446b94", func := "loop.example/g01293/laws.FnExactLongestRun", spec := "fnExactLongestRun", unfollowed := true, recurses := true, apart := false }
def FnExactLongestRunSaid : Prop := fnExactLongestRunRow.holds Try.pinned (OpenSpec.ofChange fnExactLongestRunSpec)

/-- ITS FALSE NEIGHBOUR: 'it returns false'. Refute it at one input. -/
def fnExactLongestRunWrong : ChangeSpec := { name := "fnExactLongestRun", fn := fun _ => fun
  | [d1, d2] => { results := [.lit (.bool false)], args := [d1, d2] }
  | _ => none }
def FnExactLongestRunWrongFalsely : Prop := fnExactLongestRunRow.holds Try.pinned (OpenSpec.ofChange fnExactLongestRunWrong)

/-- 'laws.FnExactFallsOf': WHATEVER THE INPUT: true; the input reads as it did. -/
def fnExactFallsOfSpec : ChangeSpec := { name := "fnExactFallsOf", fn := fun _ => fun
  | [d1, d2] => { results := [.lit (.bool true)], args := [d1, d2] }
  | _ => none }
def fnExactFallsOfRow : OpenClaim := { program := "ytklbejejadmehaa", sum := "71cdf2b852e83f4e85a83c8cfe14d86adb6040038aa10c062cfb85c986446b94", func := "loop.example/g01293/laws.FnExactFallsOf", spec := "fnExactFallsOf", unfollowed := true, recurses := true, apart := false }
def FnExactFallsOfSaid : Prop := fnExactFallsOfRow.holds Try.pinned (OpenSpec.ofChange fnExactFallsOfSpec)

/-- ITS FALSE NEIGHBOUR: 'it returns false'. Refute it at one input. -/
def fnExactFallsOfWrong : ChangeSpec := { name := "fnExactFallsOf", fn := fun _ => fun
  | [d1, d2] => { results := [.lit (.bool false)], args := [d1, d2] }
  | _ => none }
def FnExactFallsOfWrongFalsely : Prop := fnExactFallsOfRow.holds Try.pinned (OpenSpec.ofChange fnExactFallsOfWrong)

/-- 'laws.FnExactCountFallen': WHATEVER THE INPUT: true; the input reads as it did. -/
def fnExactCountFallenSpec : ChangeSpec := { name := "fnExactCountFallen", fn := fun _ => fun
  | [d1, d2, d3] => { results := [.lit (.bool true)], args := [d1, d2, d3] }
  | _ => none }
def fnExactCountFallenRow : OpenClaim := { program := "ytklbejejadmehaa", sum := "71cdf2b852e83f4e85a83c8cfe14d86adb6040038aa10c062cfb85c986446b94", func := "loop.example/g01293/laws.FnExactCountFallen", spec := "fnExactCountFallen", unfollowed := true, recurses := true, apart := false }
def FnExactCountFallenSaid : Prop := fnExactCountFallenRow.holds Try.pinned (OpenSpec.ofChange fnExactCountFallenSpec)

/-- ITS FALSE NEIGHBOUR: 'it returns false'. Refute it at one input. -/
def fnExactCountFallenWrong : ChangeSpec := { name := "fnExactCountFallen", fn := fun _ => fun
  | [d1, d2, d3] => { results := [.lit (.bool false)], args := [d1, d2, d3] }
  | _ => none }
def FnExactCountFallenWrongFalsely : Prop := fnExactCountFallenRow.holds Try.pinned (OpenSpec.ofChange fnExactCountFallenWrong)

/-- 'laws.FnExactSlowestFall': WHATEVER THE INPUT: true; the input reads as it did. -/
def fnExactSlowestFallSpec : ChangeSpec := { name := "fnExactSlowestFall", fn := fun _ => fun
  | [d1, d2] => { results := [.lit (.bool true)], args := [d1, d2] }
  | _ => none }
def fnExactSlowestFallRow : OpenClaim := { program := "ytklbejejadmehaa", sum := "71cdf2b852e83f4e85a83c8cfe14d86adb6040038aa10c062cfb85c986446b94", func := "loop.example/g01293/laws.FnExactSlowestFall", spec := "fnExactSlowestFall", unfollowed := true, recurses := true, apart := false }
def FnExactSlowestFallSaid : Prop := fnExactSlowestFallRow.holds Try.pinned (OpenSpec.ofChange fnExactSlowestFallSpec)

/-- ITS FALSE NEIGHBOUR: 'it returns false'. Refute it at one input. -/
def fnExactSlowestFallWrong : ChangeSpec := { name := "fnExactSlowestFall", fn := fun _ => fun
  | [d1, d2] => { results := [.lit (.bool false)], args := [d1, d2] }
  | _ => none }
def FnExactSlowestFallWrongFalsely : Prop := fnExactSlowestFallRow.holds Try.pinned (OpenSpec.ofChange fnExactSlowestFallWrong)

/- THE SECOND FORM. 'bulk': how many values and letters a reading holds, each counted each time it is reached (what is shared counts as often as it is met; a slice's spare places count too). A statement '..UptoSaid' is the law's where the arguments, and the package variables that the reading takes, are together of bulk at most 1048576: NARROWER than '..Said'. Prove '..Said' where nothing that the law and all that it calls make is longer than what came in: it says more and counts as full. Else prove '..UptoSaid'. A law counts once. -/
mutual
def uptoBulk {H : Type} : DataW H → Nat
  | .lit (.string bytes) => bytes.length + 1
  | .lit _ => 1
  | .nil => 1
  | .ptr d => uptoBulk d + 1
  | .slice elems spare => uptoBulkAll elems + uptoBulkAll spare + 1
  | .agg parts => uptoBulkAll parts + 1
  | .iface _ d => uptoBulk d + 1
  | .map entries => uptoBulkEntries entries + 1
  | .held _ => 1
def uptoBulkAll {H : Type} : List (DataW H) → Nat
  | [] => 0
  | d :: r => uptoBulk d + uptoBulkAll r
def uptoBulkEntries {H : Type} : List (Lit × DataW H) → Nat
  | [] => 0
  | x :: r => uptoBulkEntry x + uptoBulkEntries r
def uptoBulkEntry {H : Type} : Lit × DataW H → Nat
  | (.string bytes, d) => bytes.length + uptoBulk d + 1
  | (_, d) => uptoBulk d + 1
 end
def uptoSmall : (H : Type) → List (DataW H) → Bool := fun _ ds => decide (uptoBulkAll ds ≤ 1048576)
def OpenSpec.upto (s : _root_.Go.ChangeSpec) : _root_.Go.OpenSpec := { _root_.Go.OpenSpec.ofChange s with cond := some uptoSmall }

/-- 'laws.FnExactStepsNeeded', WHERE WHAT IT READS IS OF BULK AT MOST 1048576: true; the input reads as it did. -/
def fnExactStepsNeededUptoRow : OpenClaim := { program := "ytklbejejadmehaa", sum := "71cdf2b852e83f4e85a83c8cfe14d86adb6040038aa10c062cfb85c986446b94", func := "loop.example/g01293/laws.FnExactStepsNeeded", spec := "fnExactStepsNeeded", unfollowed := true, recurses := true, apart := false, narrowed := true }
def FnExactStepsNeededUptoSaid : Prop := fnExactStepsNeededUptoRow.holds Try.pinned (OpenSpec.upto fnExactStepsNeededSpec)

/-- 'laws.FnExactSlowestUpTo', WHERE WHAT IT READS IS OF BULK AT MOST 1048576: true; the input reads as it did. -/
def fnExactSlowestUpToUptoRow : OpenClaim := { program := "ytklbejejadmehaa", sum := "71cdf2b852e83f4e85a83c8cfe14d86adb6040038aa10c062cfb85c986446b94", func := "loop.example/g01293/laws.FnExactSlowestUpTo", spec := "fnExactSlowestUpTo", unfollowed := true, recurses := true, apart := false, narrowed := true }
def FnExactSlowestUpToUptoSaid : Prop := fnExactSlowestUpToUptoRow.holds Try.pinned (OpenSpec.upto fnExactSlowestUpToSpec)

/-- 'laws.FnExactStepRecords', WHERE WHAT IT READS IS OF BULK AT MOST 1048576: true; the input reads as it did. -/
def fnExactStepRecordsUptoRow : OpenClaim := { program := "ytklbejejadmehaa", sum := "71cdf2b852e83f4e85a83c8cfe14d86adb6040038aa10c062cfb85c986446b94", func := "loop.example/g01293/laws.FnExactStepRecords", spec := "fnExactStepRecords", unfollowed := true, recurses := true, apart := false, narrowed := true }
def FnExactStepRecordsUptoSaid : Prop := fnExactStepRecordsUptoRow.holds Try.pinned (OpenSpec.upto fnExactStepRecordsSpec)

/-- 'laws.FnExactStepsList', WHERE WHAT IT READS IS OF BULK AT MOST 1048576: true; the input reads as it did. -/
def fnExactStepsListUptoRow : OpenClaim := { program := "ytklbejejadmehaa", sum := "71cdf2b852e83f4e85a83c8cfe14d86adb6040038aa10c062cfb85c986446b94", func := "loop.example/g01293/laws.FnExactStepsList", spec := "fnExactStepsList", unfollowed := true, recurses := true, apart := false, narrowed := true }
def FnExactStepsListUptoSaid : Prop := fnExactStepsListUptoRow.holds Try.pinned (OpenSpec.upto fnExactStepsListSpec)

/-- 'laws.FnExactMeanSteps', WHERE WHAT IT READS IS OF BULK AT MOST 1048576: true; the input reads as it did. -/
def fnExactMeanStepsUptoRow : OpenClaim := { program := "ytklbejejadmehaa", sum := "71cdf2b852e83f4e85a83c8cfe14d86adb6040038aa10c062cfb85c986446b94", func := "loop.example/g01293/laws.FnExactMeanSteps", spec := "fnExactMeanSteps", unfollowed := true, recurses := true, apart := false, narrowed := true }
def FnExactMeanStepsUptoSaid : Prop := fnExactMeanStepsUptoRow.holds Try.pinned (OpenSpec.upto fnExactMeanStepsSpec)

/-- 'laws.FnExactWithSteps', WHERE WHAT IT READS IS OF BULK AT MOST 1048576: true; the input reads as it did. -/
def fnExactWithStepsUptoRow : OpenClaim := { program := "ytklbejejadmehaa", sum := "71cdf2b852e83f4e85a83c8cfe14d86adb6040038aa10c062cfb85c986446b94", func := "loop.example/g01293/laws.FnExactWithSteps", spec := "fnExactWithSteps", unfollowed := true, recurses := true, apart := false, narrowed := true }
def FnExactWithStepsUptoSaid : Prop := fnExactWithStepsUptoRow.holds Try.pinned (OpenSpec.upto fnExactWithStepsSpec)

/-- 'laws.FnExactLongestRun', WHERE WHAT IT READS IS OF BULK AT MOST 1048576: true; the input reads as it did. -/
def fnExactLongestRunUptoRow : OpenClaim := { program := "ytklbejejadmehaa", sum := "71cdf2b852e83f4e85a83c8cfe14d86adb6040038aa10c062cfb85c986446b94", func := "loop.example/g01293/laws.FnExactLongestRun", spec := "fnExactLongestRun", unfollowed := true, recurses := true, apart := false, narrowed := true }
def FnExactLongestRunUptoSaid : Prop := fnExactLongestRunUptoRow.holds Try.pinned (OpenSpec.upto fnExactLongestRunSpec)

/-- 'laws.FnExactFallsOf', WHERE WHAT IT READS IS OF BULK AT MOST 1048576: true; the input reads as it did. -/
def fnExactFallsOfUptoRow : OpenClaim := { program := "ytklbejejadmehaa", sum := "71cdf2b852e83f4e85a83c8cfe14d86adb6040038aa10c062cfb85c986446b94", func := "loop.example/g01293/laws.FnExactFallsOf", spec := "fnExactFallsOf", unfollowed := true, recurses := true, apart := false, narrowed := true }
def FnExactFallsOfUptoSaid : Prop := fnExactFallsOfUptoRow.holds Try.pinned (OpenSpec.upto fnExactFallsOfSpec)

/-- 'laws.FnExactCountFallen', WHERE WHAT IT READS IS OF BULK AT MOST 1048576: true; the input reads as it did. -/
def fnExactCountFallenUptoRow : OpenClaim := { program := "ytklbejejadmehaa", sum := "71cdf2b852e83f4e85a83c8cfe14d86adb6040038aa10c062cfb85c986446b94", func := "loop.example/g01293/laws.FnExactCountFallen", spec := "fnExactCountFallen", unfollowed := true, recurses := true, apart := false, narrowed := true }
def FnExactCountFallenUptoSaid : Prop := fnExactCountFallenUptoRow.holds Try.pinned (OpenSpec.upto fnExactCountFallenSpec)

/-- 'laws.FnExactSlowestFall', WHERE WHAT IT READS IS OF BULK AT MOST 1048576: true; the input reads as it did. -/
def fnExactSlowestFallUptoRow : OpenClaim := { program := "ytklbejejadmehaa", sum := "71cdf2b852e83f4e85a83c8cfe14d86adb6040038aa10c062cfb85c986446b94", func := "loop.example/g01293/laws.FnExactSlowestFall", spec := "fnExactSlowestFall", unfollowed := true, recurses := true, apart := false, narrowed := true }
def FnExactSlowestFallUptoSaid : Prop := fnExactSlowestFallUptoRow.holds Try.pinned (OpenSpec.upto fnExactSlowestFallSpec)

end Rows
end Go.Proofs.Ytklbejejadmehaa
