/-
  No cell of these rows narrows 'for every input' (looked for: loops, veiled, ifaces, maps, wideKeys, modest, calm, conditions, laid).
  DERIVED. THE GIVEN ROWS OF THIS SEAT. 4 by the template 'for every input the law returns true; each argument reads behind the call as it read before'; 0 by the template 'total and deterministic' (their statements: YteghjcbhkhbncaaTotals.lean).
  GIVEN WITH THE SEED: the statements are not yours to turn. If you find one false, say at which input.
  Laid BY PROGRAM, IN A SANDBOX (cutbox-rows.mjs): the forced cells as the released guide's own fill.sh prints them over the translation f60405b23658f2a7… (all of the seat's roots in one cut). By AI agents, Wed Nov 11 2026. No macro, syntax, notation, axiom, sorry.
-/
import Derived.Test.YteghjcbhkhbncaaChecked
import GoSem.Claim
import GoSem.ClaimJoined
import GoSem.ClaimMapViews
import Derived.JoinedTies
import Derived.KernelRfl
namespace Go.Proofs.Yteghjcbhkhbncaa
/- THE CELL 'sum', in the pinned program and in every row, IS THE sha256 OF THE DUMP (.gsa) THAT YteghjcbhkhbncaaProg.lean LOADS. Nothing in Lean hashes anything: it is a label: what it is worth is what the hold of that sum in a sandbox is worth. -/
noncomputable def Try.pinned : Pinned := { name := "yteghjcbhkhbncaa", sum := "f60405b23658f2a705944124f9b542cc65aff6eb23dd4d0a3e2d5224f43eb9a3", checked := Try.checked }
namespace Rows
def none {H : Type} : Left H := { results := [], args := [] }

/-- 'laws.FnExactPeakRecords': WHATEVER THE INPUT: true; the input reads as it did. -/
def fnExactPeakRecordsSpec : ChangeSpec := { name := "fnExactPeakRecords", fn := fun _ => fun
  | [d1, d2] => { results := [.lit (.bool true)], args := [d1, d2] }
  | _ => none }
def fnExactPeakRecordsRow : OpenClaim := { program := "yteghjcbhkhbncaa", sum := "f60405b23658f2a705944124f9b542cc65aff6eb23dd4d0a3e2d5224f43eb9a3", func := "loop.example/g01293/laws.FnExactPeakRecords", spec := "fnExactPeakRecords", unfollowed := true, recurses := true, apart := false }
def FnExactPeakRecordsSaid : Prop := fnExactPeakRecordsRow.holds Try.pinned (OpenSpec.ofChange fnExactPeakRecordsSpec)

/-- ITS FALSE NEIGHBOUR: 'it returns false'. Refute it at one input. -/
def fnExactPeakRecordsWrong : ChangeSpec := { name := "fnExactPeakRecords", fn := fun _ => fun
  | [d1, d2] => { results := [.lit (.bool false)], args := [d1, d2] }
  | _ => none }
def FnExactPeakRecordsWrongFalsely : Prop := fnExactPeakRecordsRow.holds Try.pinned (OpenSpec.ofChange fnExactPeakRecordsWrong)

/-- 'laws.FnExactPathsMerge': WHATEVER THE INPUT: true; the input reads as it did. -/
def fnExactPathsMergeSpec : ChangeSpec := { name := "fnExactPathsMerge", fn := fun _ => fun
  | [d1, d2, d3] => { results := [.lit (.bool true)], args := [d1, d2, d3] }
  | _ => none }
def fnExactPathsMergeRow : OpenClaim := { program := "yteghjcbhkhbncaa", sum := "f60405b23658f2a705944124f9b542cc65aff6eb23dd4d0a3e2d5224f43eb9a3", func := "loop.example/g01293/laws.FnExactPathsMerge", spec := "fnExactPathsMerge", unfollowed := true, recurses := true, apart := false }
def FnExactPathsMergeSaid : Prop := fnExactPathsMergeRow.holds Try.pinned (OpenSpec.ofChange fnExactPathsMergeSpec)

/-- ITS FALSE NEIGHBOUR: 'it returns false'. Refute it at one input. -/
def fnExactPathsMergeWrong : ChangeSpec := { name := "fnExactPathsMerge", fn := fun _ => fun
  | [d1, d2, d3] => { results := [.lit (.bool false)], args := [d1, d2, d3] }
  | _ => none }
def FnExactPathsMergeWrongFalsely : Prop := fnExactPathsMergeRow.holds Try.pinned (OpenSpec.ofChange fnExactPathsMergeWrong)

/-- 'laws.FnExactMergeSteps': WHATEVER THE INPUT: true; the input reads as it did. -/
def fnExactMergeStepsSpec : ChangeSpec := { name := "fnExactMergeSteps", fn := fun _ => fun
  | [d1, d2, d3] => { results := [.lit (.bool true)], args := [d1, d2, d3] }
  | _ => none }
def fnExactMergeStepsRow : OpenClaim := { program := "yteghjcbhkhbncaa", sum := "f60405b23658f2a705944124f9b542cc65aff6eb23dd4d0a3e2d5224f43eb9a3", func := "loop.example/g01293/laws.FnExactMergeSteps", spec := "fnExactMergeSteps", unfollowed := true, recurses := true, apart := false }
def FnExactMergeStepsSaid : Prop := fnExactMergeStepsRow.holds Try.pinned (OpenSpec.ofChange fnExactMergeStepsSpec)

/-- ITS FALSE NEIGHBOUR: 'it returns false'. Refute it at one input. -/
def fnExactMergeStepsWrong : ChangeSpec := { name := "fnExactMergeSteps", fn := fun _ => fun
  | [d1, d2, d3] => { results := [.lit (.bool false)], args := [d1, d2, d3] }
  | _ => none }
def FnExactMergeStepsWrongFalsely : Prop := fnExactMergeStepsRow.holds Try.pinned (OpenSpec.ofChange fnExactMergeStepsWrong)

/-- 'laws.FnExactPeakOfAll': WHATEVER THE INPUT: true; the input reads as it did. -/
def fnExactPeakOfAllSpec : ChangeSpec := { name := "fnExactPeakOfAll", fn := fun _ => fun
  | [d1, d2] => { results := [.lit (.bool true)], args := [d1, d2] }
  | _ => none }
def fnExactPeakOfAllRow : OpenClaim := { program := "yteghjcbhkhbncaa", sum := "f60405b23658f2a705944124f9b542cc65aff6eb23dd4d0a3e2d5224f43eb9a3", func := "loop.example/g01293/laws.FnExactPeakOfAll", spec := "fnExactPeakOfAll", unfollowed := true, recurses := true, apart := false }
def FnExactPeakOfAllSaid : Prop := fnExactPeakOfAllRow.holds Try.pinned (OpenSpec.ofChange fnExactPeakOfAllSpec)

/-- ITS FALSE NEIGHBOUR: 'it returns false'. Refute it at one input. -/
def fnExactPeakOfAllWrong : ChangeSpec := { name := "fnExactPeakOfAll", fn := fun _ => fun
  | [d1, d2] => { results := [.lit (.bool false)], args := [d1, d2] }
  | _ => none }
def FnExactPeakOfAllWrongFalsely : Prop := fnExactPeakOfAllRow.holds Try.pinned (OpenSpec.ofChange fnExactPeakOfAllWrong)

/- THE SECOND FORM. 'bulk': how many values and letters a reading holds, each counted each time it is reached (what is shared counts as often as it is met; a slice's spare places count too). A statement '..UptoSaid' is the law's where the arguments, and the package variables that the reading takes, are together of bulk at most 1048576: NARROWER than '..Said'. Prove '..Said' where nothing that the law and all that it calls make is longer than what came in: it says more and counts as full. Else prove '..UptoSaid'. A law counts once. -/
mutual
def uptoBulk {H : Type} : DataW H → Nat
  | .lit (.string bytes) => bytes.length + 1
  | .lit _ => 1
  | .nil => 1
  | .ptr d => uptoBulk d + 1
  | .slice elems spare => uptoBulkAll elems + uptoBulkAll spare + 1
  | .agg parts => uptoBulkAll parts + 1
  | .iface _ d => uptoBulk d + 1
  | .map entries => uptoBulkEntries entries + 1
  | .held _ => 1
def uptoBulkAll {H : Type} : List (DataW H) → Nat
  | [] => 0
  | d :: r => uptoBulk d + uptoBulkAll r
def uptoBulkEntries {H : Type} : List (Lit × DataW H) → Nat
  | [] => 0
  | x :: r => uptoBulkEntry x + uptoBulkEntries r
def uptoBulkEntry {H : Type} : Lit × DataW H → Nat
  | (.string bytes, d) => bytes.length + uptoBulk d + 1
  | (_, d) => uptoBulk d + 1
 end
def uptoSmall : (H : Type) → List (DataW H) → Bool := fun _ ds => decide (uptoBulkAll ds ≤ 1048576)
def OpenSpec.upto (s : _root_.Go.ChangeSpec) : _root_.Go.OpenSpec := { _root_.Go.OpenSpec.ofChange s with cond := some uptoSmall }

/-- 'laws.FnExactPeakRecords', WHERE WHAT IT READS IS OF BULK AT MOST 1048576: true; the input reads as it did. -/
def fnExactPeakRecordsUptoRow : OpenClaim := { program := "yteghjcbhkhbncaa", sum := "f60405b23658f2a705944124f9b542cc65aff6eb23dd4d0a3e2d5224f43eb9a3", func := "loop.example/g01293/laws.FnExactPeakRecords", spec := "fnExactPeakRecords", unfollowed := true, recurses := true, apart := false, narrowed := true }
def FnExactPeakRecordsUptoSaid : Prop := fnExactPeakRecordsUptoRow.holds Try.pinned (OpenSpec.upto fnExactPeakRecordsSpec)

/-- 'laws.FnExactPathsMerge', WHERE WHAT IT READS IS OF BULK AT MOST 1048576: true; the input reads as it did. -/
def fnExactPathsMergeUptoRow : OpenClaim := { program := "yteghjcbhkhbncaa", sum := "f60405b23658f2a705944124f9b542cc65aff6eb23dd4d0a3e2d5224f43eb9a3", func := "loop.example/g01293/laws.FnExactPathsMerge", spec := "fnExactPathsMerge", unfollowed := true, recurses := true, apart := false, narrowed := true }
def FnExactPathsMergeUptoSaid : Prop := fnExactPathsMergeUptoRow.holds Try.pinned (OpenSpec.upto fnExactPathsMergeSpec)

/-- 'laws.FnExactMergeSteps', WHERE WHAT IT READS IS OF BULK AT MOST 1048576: true; the input reads as it did. -/
def fnExactMergeStepsUptoRow : OpenClaim := { program := "yteghjcbhkhbncaa", sum := "f60405b23658f2a705944124f9b542cc65aff6eb23dd4d0a3e2d5224f43eb9a3", func := "loop.example/g01293/laws.FnExactMergeSteps", spec := "fnExactMergeSteps", unfollowed := true, recurses := true, apart := false, narrowed := true }
def FnExactMergeStepsUptoSaid : Prop := fnExactMergeStepsUptoRow.holds Try.pinned (OpenSpec.upto fnExactMergeStepsSpec)

/-- 'laws.FnExactPeakOfAll', WHERE WHAT IT READS IS OF BULK AT MOST 1048576: true; the input reads as it did. -/
def fnExactPeakOfAllUptoRow : OpenClaim := { program := "yteghjcbhkhbncaa", sum := "f60405b23658f2a705944124f9b542cc65aff6eb23dd4d0a3e2d5224f43eb9a3", func := "loop.example/g01293/laws.FnExactPeakOfAll", spec := "fnExactPeakOfAll", unfollowed := true, recurses := true, apart := false, narrowed := true }
def FnExactPeakOfAllUptoSaid : Prop := fnExactPeakOfAllUptoRow.holds Try.pinned (OpenSpec.upto fnExactPeakOfAllSpec)

end Rows
end Go.Proofs.Yteghjcbhkhbncaa
