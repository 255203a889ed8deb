/-
  No cell of these rows narrows 'for every input' (looked for: loops, veiled, ifaces, maps, wideKeys, modest, calm, conditions, laid).
  DERIVED. THE GIVEN ROWS OF THIS SEAT. 7 by the template 'for every input the law returns true; each argument reads behind the call as it read before'; 0 by the template 'total and deterministic' (their statements: YtkogfjpcojelaaaTotals.lean).
  GIVEN WITH THE SEED: the statements are not yours to turn. If you find one false, say at which input.
  Laid BY PROGRAM, IN A SANDBOX (cutbox-rows.mjs): the forced cells as the released guide's own fill.sh prints them over the translation 5c5dfcdcddb2d27c… (all of the seat's roots in one cut). By AI agents, Wed Nov 11 2026. No macro, syntax, notation, axiom, sorry.
-/
import Derived.Test.YtkogfjpcojelaaaChecked
import GoSem.Claim
import GoSem.ClaimJoined
import GoSem.ClaimMapViews
import Derived.JoinedTies
import Derived.KernelRfl
namespace Go.Proofs.Ytkogfjpcojelaaa
/- THE CELL 'sum', in the pinned program and in every row, IS THE sha256 OF THE DUMP (.gsa) THAT YtkogfjpcojelaaaProg.lean LOADS. Nothing in Lean hashes anything: it is a label: what it is worth is what the hold of that sum in a sandbox is worth. -/
noncomputable def Try.pinned : Pinned := { name := "ytkogfjpcojelaaa", sum := "5c5dfcdcddb2d27c5212089d82a67205c5b088f1c31b0be1b869cf509a525380", checked := Try.checked }
namespace Rows
def none {H : Type} : Left H := { results := [], args := [] }

/-- 'laws.FnExactNextNumber': WHATEVER THE INPUT: true; the input reads as it did. -/
def fnExactNextNumberSpec : ChangeSpec := { name := "fnExactNextNumber", fn := fun _ => fun
  | [d1, d2] => { results := [.lit (.bool true)], args := [d1, d2] }
  | _ => none }
def fnExactNextNumberRow : OpenClaim := { program := "ytkogfjpcojelaaa", sum := "5c5dfcdcddb2d27c5212089d82a67205c5b088f1c31b0be1b869cf509a525380", func := "loop.example/g01293/laws.FnExactNextNumber", spec := "fnExactNextNumber", unfollowed := true, recurses := true, apart := false }
def FnExactNextNumberSaid : Prop := fnExactNextNumberRow.holds Try.pinned (OpenSpec.ofChange fnExactNextNumberSpec)

/-- ITS FALSE NEIGHBOUR: 'it returns false'. Refute it at one input. -/
def fnExactNextNumberWrong : ChangeSpec := { name := "fnExactNextNumber", fn := fun _ => fun
  | [d1, d2] => { results := [.lit (.bool false)], args := [d1, d2] }
  | _ => none }
def FnExactNextNumberWrongFalsely : Prop := fnExactNextNumberRow.holds Try.pinned (OpenSpec.ofChange fnExactNextNumberWrong)

/-- 'laws.FnExactShortNext': WHATEVER THE INPUT: true; the input reads as it did. -/
def fnExactShortNextSpec : ChangeSpec := { name := "fnExactShortNext", fn := fun _ => fun
  | [d1, d2] => { results := [.lit (.bool true)], args := [d1, d2] }
  | _ => none }
def fnExactShortNextRow : OpenClaim := { program := "ytkogfjpcojelaaa", sum := "5c5dfcdcddb2d27c5212089d82a67205c5b088f1c31b0be1b869cf509a525380", func := "loop.example/g01293/laws.FnExactShortNext", spec := "fnExactShortNext", unfollowed := true, recurses := true, apart := false }
def FnExactShortNextSaid : Prop := fnExactShortNextRow.holds Try.pinned (OpenSpec.ofChange fnExactShortNextSpec)

/-- ITS FALSE NEIGHBOUR: 'it returns false'. Refute it at one input. -/
def fnExactShortNextWrong : ChangeSpec := { name := "fnExactShortNext", fn := fun _ => fun
  | [d1, d2] => { results := [.lit (.bool false)], args := [d1, d2] }
  | _ => none }
def FnExactShortNextWrongFalsely : Prop := fnExactShortNextRow.holds Try.pinned (OpenSpec.ofChange fnExactShortNextWrong)

/-- 'laws.FnExactNumberAfter': WHATEVER THE INPUT: true; the input reads as it did. -/
def fnExactNumberAfterSpec : ChangeSpec := { name := "fnExactNumberAfter", fn := fun _ => fun
  | [d1, d2, d3] => { results := [.lit (.bool true)], args := [d1, d2, d3] }
  | _ => none }
def fnExactNumberAfterRow : OpenClaim := { program := "ytkogfjpcojelaaa", sum := "5c5dfcdcddb2d27c5212089d82a67205c5b088f1c31b0be1b869cf509a525380", func := "loop.example/g01293/laws.FnExactNumberAfter", spec := "fnExactNumberAfter", unfollowed := true, recurses := true, apart := false }
def FnExactNumberAfterSaid : Prop := fnExactNumberAfterRow.holds Try.pinned (OpenSpec.ofChange fnExactNumberAfterSpec)

/-- ITS FALSE NEIGHBOUR: 'it returns false'. Refute it at one input. -/
def fnExactNumberAfterWrong : ChangeSpec := { name := "fnExactNumberAfter", fn := fun _ => fun
  | [d1, d2, d3] => { results := [.lit (.bool false)], args := [d1, d2, d3] }
  | _ => none }
def FnExactNumberAfterWrongFalsely : Prop := fnExactNumberAfterRow.holds Try.pinned (OpenSpec.ofChange fnExactNumberAfterWrong)

/-- 'laws.FnExactShortAfter': WHATEVER THE INPUT: true; the input reads as it did. -/
def fnExactShortAfterSpec : ChangeSpec := { name := "fnExactShortAfter", fn := fun _ => fun
  | [d1, d2, d3] => { results := [.lit (.bool true)], args := [d1, d2, d3] }
  | _ => none }
def fnExactShortAfterRow : OpenClaim := { program := "ytkogfjpcojelaaa", sum := "5c5dfcdcddb2d27c5212089d82a67205c5b088f1c31b0be1b869cf509a525380", func := "loop.example/g01293/laws.FnExactShortAfter", spec := "fnExactShortAfter", unfollowed := true, recurses := true, apart := false }
def FnExactShortAfterSaid : Prop := fnExactShortAfterRow.holds Try.pinned (OpenSpec.ofChange fnExactShortAfterSpec)

/-- ITS FALSE NEIGHBOUR: 'it returns false'. Refute it at one input. -/
def fnExactShortAfterWrong : ChangeSpec := { name := "fnExactShortAfter", fn := fun _ => fun
  | [d1, d2, d3] => { results := [.lit (.bool false)], args := [d1, d2, d3] }
  | _ => none }
def FnExactShortAfterWrongFalsely : Prop := fnExactShortAfterRow.holds Try.pinned (OpenSpec.ofChange fnExactShortAfterWrong)

/-- 'laws.FnExactStepsTo': WHATEVER THE INPUT: true; the input reads as it did. -/
def fnExactStepsToSpec : ChangeSpec := { name := "fnExactStepsTo", fn := fun _ => fun
  | [d1, d2, d3] => { results := [.lit (.bool true)], args := [d1, d2, d3] }
  | _ => none }
def fnExactStepsToRow : OpenClaim := { program := "ytkogfjpcojelaaa", sum := "5c5dfcdcddb2d27c5212089d82a67205c5b088f1c31b0be1b869cf509a525380", func := "loop.example/g01293/laws.FnExactStepsTo", spec := "fnExactStepsTo", unfollowed := true, recurses := true, apart := false }
def FnExactStepsToSaid : Prop := fnExactStepsToRow.holds Try.pinned (OpenSpec.ofChange fnExactStepsToSpec)

/-- ITS FALSE NEIGHBOUR: 'it returns false'. Refute it at one input. -/
def fnExactStepsToWrong : ChangeSpec := { name := "fnExactStepsTo", fn := fun _ => fun
  | [d1, d2, d3] => { results := [.lit (.bool false)], args := [d1, d2, d3] }
  | _ => none }
def FnExactStepsToWrongFalsely : Prop := fnExactStepsToRow.holds Try.pinned (OpenSpec.ofChange fnExactStepsToWrong)

/-- 'laws.FnExactOddNext': WHATEVER THE INPUT: true; the input reads as it did. -/
def fnExactOddNextSpec : ChangeSpec := { name := "fnExactOddNext", fn := fun _ => fun
  | [d1, d2] => { results := [.lit (.bool true)], args := [d1, d2] }
  | _ => none }
def fnExactOddNextRow : OpenClaim := { program := "ytkogfjpcojelaaa", sum := "5c5dfcdcddb2d27c5212089d82a67205c5b088f1c31b0be1b869cf509a525380", func := "loop.example/g01293/laws.FnExactOddNext", spec := "fnExactOddNext", unfollowed := true, recurses := true, apart := false }
def FnExactOddNextSaid : Prop := fnExactOddNextRow.holds Try.pinned (OpenSpec.ofChange fnExactOddNextSpec)

/-- ITS FALSE NEIGHBOUR: 'it returns false'. Refute it at one input. -/
def fnExactOddNextWrong : ChangeSpec := { name := "fnExactOddNext", fn := fun _ => fun
  | [d1, d2] => { results := [.lit (.bool false)], args := [d1, d2] }
  | _ => none }
def FnExactOddNextWrongFalsely : Prop := fnExactOddNextRow.holds Try.pinned (OpenSpec.ofChange fnExactOddNextWrong)

/-- 'laws.FnExactFirstBelow': WHATEVER THE INPUT: true; the input reads as it did. -/
def fnExactFirstBelowSpec : ChangeSpec := { name := "fnExactFirstBelow", fn := fun _ => fun
  | [d1, d2] => { results := [.lit (.bool true)], args := [d1, d2] }
  | _ => none }
def fnExactFirstBelowRow : OpenClaim := { program := "ytkogfjpcojelaaa", sum := "5c5dfcdcddb2d27c5212089d82a67205c5b088f1c31b0be1b869cf509a525380", func := "loop.example/g01293/laws.FnExactFirstBelow", spec := "fnExactFirstBelow", unfollowed := true, recurses := true, apart := false }
def FnExactFirstBelowSaid : Prop := fnExactFirstBelowRow.holds Try.pinned (OpenSpec.ofChange fnExactFirstBelowSpec)

/-- ITS FALSE NEIGHBOUR: 'it returns false'. Refute it at one input. -/
def fnExactFirstBelowWrong : ChangeSpec := { name := "fnExactFirstBelow", fn := fun _ => fun
  | [d1, d2] => { results := [.lit (.bool false)], args := [d1, d2] }
  | _ => none }
def FnExactFirstBelowWrongFalsely : Prop := fnExactFirstBelowRow.holds Try.pinned (OpenSpec.ofChange fnExactFirstBelowWrong)

/- THE SECOND FORM. 'bulk': how many values and letters a reading holds, each counted each time it is reached (what is shared counts as often as it is met; a slice's spare places count too). A statement '..UptoSaid' is the law's where the arguments, and the package variables that the reading takes, are together of bulk at most 1048576: NARROWER than '..Said'. Prove '..Said' where nothing that the law and all that it calls make is longer than what came in: it says more and counts as full. Else prove '..UptoSaid'. A law counts once. -/
mutual
def uptoBulk {H : Type} : DataW H → Nat
  | .lit (.string bytes) => bytes.length + 1
  | .lit _ => 1
  | .nil => 1
  | .ptr d => uptoBulk d + 1
  | .slice elems spare => uptoBulkAll elems + uptoBulkAll spare + 1
  | .agg parts => uptoBulkAll parts + 1
  | .iface _ d => uptoBulk d + 1
  | .map entries => uptoBulkEntries entries + 1
  | .held _ => 1
def uptoBulkAll {H : Type} : List (DataW H) → Nat
  | [] => 0
  | d :: r => uptoBulk d + uptoBulkAll r
def uptoBulkEntries {H : Type} : List (Lit × DataW H) → Nat
  | [] => 0
  | x :: r => uptoBulkEntry x + uptoBulkEntries r
def uptoBulkEntry {H : Type} : Lit × DataW H → Nat
  | (.string bytes, d) => bytes.length + uptoBulk d + 1
  | (_, d) => uptoBulk d + 1
 end
def uptoSmall : (H : Type) → List (DataW H) → Bool := fun _ ds => decide (uptoBulkAll ds ≤ 1048576)
def OpenSpec.upto (s : _root_.Go.ChangeSpec) : _root_.Go.OpenSpec := { _root_.Go.OpenSpec.ofChange s with cond := some uptoSmall }

/-- 'laws.FnExactNextNumber', WHERE WHAT IT READS IS OF BULK AT MOST 1048576: true; the input reads as it did. -/
def fnExactNextNumberUptoRow : OpenClaim := { program := "ytkogfjpcojelaaa", sum := "5c5dfcdcddb2d27c5212089d82a67205c5b088f1c31b0be1b869cf509a525380", func := "loop.example/g01293/laws.FnExactNextNumber", spec := "fnExactNextNumber", unfollowed := true, recurses := true, apart := false, narrowed := true }
def FnExactNextNumberUptoSaid : Prop := fnExactNextNumberUptoRow.holds Try.pinned (OpenSpec.upto fnExactNextNumberSpec)

/-- 'laws.FnExactShortNext', WHERE WHAT IT READS IS OF BULK AT MOST 1048576: true; the input reads as it did. -/
def fnExactShortNextUptoRow : OpenClaim := { program := "ytkogfjpcojelaaa", sum := "5c5dfcdcddb2d27c5212089d82a67205c5b088f1c31b0be1b869cf509a525380", func := "loop.example/g01293/laws.FnExactShortNext", spec := "fnExactShortNext", unfollowed := true, recurses := true, apart := false, narrowed := true }
def FnExactShortNextUptoSaid : Prop := fnExactShortNextUptoRow.holds Try.pinned (OpenSpec.upto fnExactShortNextSpec)

/-- 'laws.FnExactNumberAfter', WHERE WHAT IT READS IS OF BULK AT MOST 1048576: true; the input reads as it did. -/
def fnExactNumberAfterUptoRow : OpenClaim := { program := "ytkogfjpcojelaaa", sum := "5c5dfcdcddb2d27c5212089d82a67205c5b088f1c31b0be1b869cf509a525380", func := "loop.example/g01293/laws.FnExactNumberAfter", spec := "fnExactNumberAfter", unfollowed := true, recurses := true, apart := false, narrowed := true }
def FnExactNumberAfterUptoSaid : Prop := fnExactNumberAfterUptoRow.holds Try.pinned (OpenSpec.upto fnExactNumberAfterSpec)

/-- 'laws.FnExactShortAfter', WHERE WHAT IT READS IS OF BULK AT MOST 1048576: true; the input reads as it did. -/
def fnExactShortAfterUptoRow : OpenClaim := { program := "ytkogfjpcojelaaa", sum := "5c5dfcdcddb2d27c5212089d82a67205c5b088f1c31b0be1b869cf509a525380", func := "loop.example/g01293/laws.FnExactShortAfter", spec := "fnExactShortAfter", unfollowed := true, recurses := true, apart := false, narrowed := true }
def FnExactShortAfterUptoSaid : Prop := fnExactShortAfterUptoRow.holds Try.pinned (OpenSpec.upto fnExactShortAfterSpec)

/-- 'laws.FnExactStepsTo', WHERE WHAT IT READS IS OF BULK AT MOST 1048576: true; the input reads as it did. -/
def fnExactStepsToUptoRow : OpenClaim := { program := "ytkogfjpcojelaaa", sum := "5c5dfcdcddb2d27c5212089d82a67205c5b088f1c31b0be1b869cf509a525380", func := "loop.example/g01293/laws.FnExactStepsTo", spec := "fnExactStepsTo", unfollowed := true, recurses := true, apart := false, narrowed := true }
def FnExactStepsToUptoSaid : Prop := fnExactStepsToUptoRow.holds Try.pinned (OpenSpec.upto fnExactStepsToSpec)

/-- 'laws.FnExactOddNext', WHERE WHAT IT READS IS OF BULK AT MOST 1048576: true; the input reads as it did. -/
def fnExactOddNextUptoRow : OpenClaim := { program := "ytkogfjpcojelaaa", sum := "5c5dfcdcddb2d27c5212089d82a67205c5b088f1c31b0be1b869cf509a525380", func := "loop.example/g01293/laws.FnExactOddNext", spec := "fnExactOddNext", unfollowed := true, recurses := true, apart := false, narrowed := true }
def FnExactOddNextUptoSaid : Prop := fnExactOddNextUptoRow.holds Try.pinned (OpenSpec.upto fnExactOddNextSpec)

/-- 'laws.FnExactFirstBelow', WHERE WHAT IT READS IS OF BULK AT MOST 1048576: true; the input reads as it did. -/
def fnExactFirstBelowUptoRow : OpenClaim := { program := "ytkogfjpcojelaaa", sum := "5c5dfcdcddb2d27c5212089d82a67205c5b088f1c31b0be1b869cf509a525380", func := "loop.example/g01293/laws.FnExactFirstBelow", spec := "fnExactFirstBelow", unfollowed := true, recurses := true, apart := false, narrowed := true }
def FnExactFirstBelowUptoSaid : Prop := fnExactFirstBelowUptoRow.holds Try.pinned (OpenSpec.upto fnExactFirstBelowSpec)

end Rows
end Go.Proofs.Ytkogfjpcojelaaa
