/-
  No cell of these rows narrows 'for every input' (looked for: loops, veiled, ifaces, maps, wideKeys, modest, calm, conditions, laid).
  DERIVED. THE GIVEN ROWS OF THIS SEAT. 12 by the template 'for every input the law returns true; each argument reads behind the call as it read before'; 0 by the template 'total and deterministic' (their statements: YtalefpiakicimaaTotals.lean).
  GIVEN WITH THE SEED: the statements are not yours to turn. If you find one false, say at which input.
  Laid BY PROGRAM, IN A SANDBOX (cutbox-rows.mjs): the forced cells as the released guide's own fill.sh prints them over the translation 6f53b77f24534ea8… (all of the seat's roots in one cut). By AI agents, Wed Nov 11 2026. No macro, syntax, notation, axiom, sorry.
-/
import Derived.Test.YtalefpiakicimaaChecked
import GoSem.Claim
import GoSem.ClaimJoined
import GoSem.ClaimMapViews
import Derived.JoinedTies
import Derived.KernelRfl
namespace Go.Proofs.Ytalefpiakicimaa
/- THE CELL 'sum', in the pinned program and in every row, IS THE sha256 OF THE DUMP (.gsa) THAT YtalefpiakicimaaProg.lean LOADS. Nothing in Lean hashes anything: it is a label: what it is worth is what the hold of that sum in a sandbox is worth. -/
noncomputable def Try.pinned : Pinned := { name := "ytalefpiakicimaa", sum := "6f53b77f24534ea88ef25f0a70eae52557176292df6022b8aafecec677b4b817", checked := Try.checked }
namespace Rows
def none {H : Type} : Left H := { results := [], args := [] }

/-- 'laws.FnExactNumbersBefore': WHATEVER THE INPUT: true; the input reads as it did. -/
def fnExactNumbersBeforeSpec : ChangeSpec := { name := "fnExactNumbersBefore", fn := fun _ => fun
  | [d1, d2] => { results := [.lit (.bool true)], args := [d1, d2] }
  | _ => none }
def fnExactNumbersBeforeRow : OpenClaim := { program := "ytalefpiakicimaa", sum := "6f53b77f24534ea88ef25f0a70eae52557176292df6022b8aafecec677b4b817", func := "loop.example/g01293/laws.FnExactNumbersBefore", spec := "fnExactNumbersBefore", unfollowed := true, recurses := true, apart := false }
def FnExactNumbersBeforeSaid : Prop := fnExactNumbersBeforeRow.holds Try.pinned (OpenSpec.ofChange fnExactNumbersBeforeSpec)

/-- ITS FALSE NEIGHBOUR: 'it returns false'. Refute it at one input. -/
def fnExactNumbersBeforeWrong : ChangeSpec := { name := "fnExactNumbersBefore", fn := fun _ => fun
  | [d1, d2] => { results := [.lit (.bool false)], args := [d1, d2] }
  | _ => none }
def FnExactNumbersBeforeWrongFalsely : Prop := fnExactNumbersBeforeRow.holds Try.pinned (OpenSpec.ofChange fnExactNumbersBeforeWrong)

/-- 'laws.FnExactLevelOf': WHATEVER THE INPUT: true; the input reads as it did. -/
def fnExactLevelOfSpec : ChangeSpec := { name := "fnExactLevelOf", fn := fun _ => fun
  | [d1, d2, d3] => { results := [.lit (.bool true)], args := [d1, d2, d3] }
  | _ => none }
def fnExactLevelOfRow : OpenClaim := { program := "ytalefpiakicimaa", sum := "6f53b77f24534ea88ef25f0a70eae52557176292df6022b8aafecec677b4b817", func := "loop.example/g01293/laws.FnExactLevelOf", spec := "fnExactLevelOf", unfollowed := true, recurses := true, apart := false }
def FnExactLevelOfSaid : Prop := fnExactLevelOfRow.holds Try.pinned (OpenSpec.ofChange fnExactLevelOfSpec)

/-- ITS FALSE NEIGHBOUR: 'it returns false'. Refute it at one input. -/
def fnExactLevelOfWrong : ChangeSpec := { name := "fnExactLevelOf", fn := fun _ => fun
  | [d1, d2, d3] => { results := [.lit (.bool false)], args := [d1, d2, d3] }
  | _ => none }
def FnExactLevelOfWrongFalsely : Prop := fnExactLevelOfRow.holds Try.pinned (OpenSpec.ofChange fnExactLevelOfWrong)

/-- 'laws.FnExactLevelSizes': WHATEVER THE INPUT: true; the input reads as it did. -/
def fnExactLevelSizesSpec : ChangeSpec := { name := "fnExactLevelSizes", fn := fun _ => fun
  | [d1, d2, d3] => { results := [.lit (.bool true)], args := [d1, d2, d3] }
  | _ => none }
def fnExactLevelSizesRow : OpenClaim := { program := "ytalefpiakicimaa", sum := "6f53b77f24534ea88ef25f0a70eae52557176292df6022b8aafecec677b4b817", func := "loop.example/g01293/laws.FnExactLevelSizes", spec := "fnExactLevelSizes", unfollowed := true, recurses := true, apart := false }
def FnExactLevelSizesSaid : Prop := fnExactLevelSizesRow.holds Try.pinned (OpenSpec.ofChange fnExactLevelSizesSpec)

/-- ITS FALSE NEIGHBOUR: 'it returns false'. Refute it at one input. -/
def fnExactLevelSizesWrong : ChangeSpec := { name := "fnExactLevelSizes", fn := fun _ => fun
  | [d1, d2, d3] => { results := [.lit (.bool false)], args := [d1, d2, d3] }
  | _ => none }
def FnExactLevelSizesWrongFalsely : Prop := fnExactLevelSizesRow.holds Try.pinned (OpenSpec.ofChange fnExactLevelSizesWrong)

/-- 'laws.FnExactIsInLevel': WHATEVER THE INPUT: true; the input reads as it did. -/
def fnExactIsInLevelSpec : ChangeSpec := { name := "fnExactIsInLevel", fn := fun _ => fun
  | [d1, d2, d3, d4] => { results := [.lit (.bool true)], args := [d1, d2, d3, d4] }
  | _ => none }
def fnExactIsInLevelRow : OpenClaim := { program := "ytalefpiakicimaa", sum := "6f53b77f24534ea88ef25f0a70eae52557176292df6022b8aafecec677b4b817", func := "loop.example/g01293/laws.FnExactIsInLevel", spec := "fnExactIsInLevel", unfollowed := true, recurses := true, apart := false }
def FnExactIsInLevelSaid : Prop := fnExactIsInLevelRow.holds Try.pinned (OpenSpec.ofChange fnExactIsInLevelSpec)

/-- ITS FALSE NEIGHBOUR: 'it returns false'. Refute it at one input. -/
def fnExactIsInLevelWrong : ChangeSpec := { name := "fnExactIsInLevel", fn := fun _ => fun
  | [d1, d2, d3, d4] => { results := [.lit (.bool false)], args := [d1, d2, d3, d4] }
  | _ => none }
def FnExactIsInLevelWrongFalsely : Prop := fnExactIsInLevelRow.holds Try.pinned (OpenSpec.ofChange fnExactIsInLevelWrong)

/-- 'laws.FnExactLeastOfLevel': WHATEVER THE INPUT: true; the input reads as it did. -/
def fnExactLeastOfLevelSpec : ChangeSpec := { name := "fnExactLeastOfLevel", fn := fun _ => fun
  | [d1, d2, d3] => { results := [.lit (.bool true)], args := [d1, d2, d3] }
  | _ => none }
def fnExactLeastOfLevelRow : OpenClaim := { program := "ytalefpiakicimaa", sum := "6f53b77f24534ea88ef25f0a70eae52557176292df6022b8aafecec677b4b817", func := "loop.example/g01293/laws.FnExactLeastOfLevel", spec := "fnExactLeastOfLevel", unfollowed := true, recurses := true, apart := false }
def FnExactLeastOfLevelSaid : Prop := fnExactLeastOfLevelRow.holds Try.pinned (OpenSpec.ofChange fnExactLeastOfLevelSpec)

/-- ITS FALSE NEIGHBOUR: 'it returns false'. Refute it at one input. -/
def fnExactLeastOfLevelWrong : ChangeSpec := { name := "fnExactLeastOfLevel", fn := fun _ => fun
  | [d1, d2, d3] => { results := [.lit (.bool false)], args := [d1, d2, d3] }
  | _ => none }
def FnExactLeastOfLevelWrongFalsely : Prop := fnExactLeastOfLevelRow.holds Try.pinned (OpenSpec.ofChange fnExactLeastOfLevelWrong)

/-- 'laws.FnExactCountOddOfLevel': WHATEVER THE INPUT: true; the input reads as it did. -/
def fnExactCountOddOfLevelSpec : ChangeSpec := { name := "fnExactCountOddOfLevel", fn := fun _ => fun
  | [d1, d2, d3] => { results := [.lit (.bool true)], args := [d1, d2, d3] }
  | _ => none }
def fnExactCountOddOfLevelRow : OpenClaim := { program := "ytalefpiakicimaa", sum := "6f53b77f24534ea88ef25f0a70eae52557176292df6022b8aafecec677b4b817", func := "loop.example/g01293/laws.FnExactCountOddOfLevel", spec := "fnExactCountOddOfLevel", unfollowed := true, recurses := true, apart := false }
def FnExactCountOddOfLevelSaid : Prop := fnExactCountOddOfLevelRow.holds Try.pinned (OpenSpec.ofChange fnExactCountOddOfLevelSpec)

/-- ITS FALSE NEIGHBOUR: 'it returns false'. Refute it at one input. -/
def fnExactCountOddOfLevelWrong : ChangeSpec := { name := "fnExactCountOddOfLevel", fn := fun _ => fun
  | [d1, d2, d3] => { results := [.lit (.bool false)], args := [d1, d2, d3] }
  | _ => none }
def FnExactCountOddOfLevelWrongFalsely : Prop := fnExactCountOddOfLevelRow.holds Try.pinned (OpenSpec.ofChange fnExactCountOddOfLevelWrong)

/-- 'laws.FnExactBarrenOfLevel': WHATEVER THE INPUT: true; the input reads as it did. -/
def fnExactBarrenOfLevelSpec : ChangeSpec := { name := "fnExactBarrenOfLevel", fn := fun _ => fun
  | [d1, d2, d3] => { results := [.lit (.bool true)], args := [d1, d2, d3] }
  | _ => none }
def fnExactBarrenOfLevelRow : OpenClaim := { program := "ytalefpiakicimaa", sum := "6f53b77f24534ea88ef25f0a70eae52557176292df6022b8aafecec677b4b817", func := "loop.example/g01293/laws.FnExactBarrenOfLevel", spec := "fnExactBarrenOfLevel", unfollowed := true, recurses := true, apart := false }
def FnExactBarrenOfLevelSaid : Prop := fnExactBarrenOfLevelRow.holds Try.pinned (OpenSpec.ofChange fnExactBarrenOfLevelSpec)

/-- ITS FALSE NEIGHBOUR: 'it returns false'. Refute it at one input. -/
def fnExactBarrenOfLevelWrong : ChangeSpec := { name := "fnExactBarrenOfLevel", fn := fun _ => fun
  | [d1, d2, d3] => { results := [.lit (.bool false)], args := [d1, d2, d3] }
  | _ => none }
def FnExactBarrenOfLevelWrongFalsely : Prop := fnExactBarrenOfLevelRow.holds Try.pinned (OpenSpec.ofChange fnExactBarrenOfLevelWrong)

/-- 'laws.FnExactShortBefore': WHATEVER THE INPUT: true; the input reads as it did. -/
def fnExactShortBeforeSpec : ChangeSpec := { name := "fnExactShortBefore", fn := fun _ => fun
  | [d1, d2] => { results := [.lit (.bool true)], args := [d1, d2] }
  | _ => none }
def fnExactShortBeforeRow : OpenClaim := { program := "ytalefpiakicimaa", sum := "6f53b77f24534ea88ef25f0a70eae52557176292df6022b8aafecec677b4b817", func := "loop.example/g01293/laws.FnExactShortBefore", spec := "fnExactShortBefore", unfollowed := true, recurses := true, apart := false }
def FnExactShortBeforeSaid : Prop := fnExactShortBeforeRow.holds Try.pinned (OpenSpec.ofChange fnExactShortBeforeSpec)

/-- ITS FALSE NEIGHBOUR: 'it returns false'. Refute it at one input. -/
def fnExactShortBeforeWrong : ChangeSpec := { name := "fnExactShortBefore", fn := fun _ => fun
  | [d1, d2] => { results := [.lit (.bool false)], args := [d1, d2] }
  | _ => none }
def FnExactShortBeforeWrongFalsely : Prop := fnExactShortBeforeRow.holds Try.pinned (OpenSpec.ofChange fnExactShortBeforeWrong)

/-- 'laws.FnExactShortLevel': WHATEVER THE INPUT: true; the input reads as it did. -/
def fnExactShortLevelSpec : ChangeSpec := { name := "fnExactShortLevel", fn := fun _ => fun
  | [d1, d2, d3] => { results := [.lit (.bool true)], args := [d1, d2, d3] }
  | _ => none }
def fnExactShortLevelRow : OpenClaim := { program := "ytalefpiakicimaa", sum := "6f53b77f24534ea88ef25f0a70eae52557176292df6022b8aafecec677b4b817", func := "loop.example/g01293/laws.FnExactShortLevel", spec := "fnExactShortLevel", unfollowed := true, recurses := true, apart := false }
def FnExactShortLevelSaid : Prop := fnExactShortLevelRow.holds Try.pinned (OpenSpec.ofChange fnExactShortLevelSpec)

/-- ITS FALSE NEIGHBOUR: 'it returns false'. Refute it at one input. -/
def fnExactShortLevelWrong : ChangeSpec := { name := "fnExactShortLevel", fn := fun _ => fun
  | [d1, d2, d3] => { results := [.lit (.bool false)], args := [d1, d2, d3] }
  | _ => none }
def FnExactShortLevelWrongFalsely : Prop := fnExactShortLevelRow.holds Try.pinned (OpenSpec.ofChange fnExactShortLevelWrong)

/-- 'laws.FnExactInTreeUpTo': WHATEVER THE INPUT: true; the input reads as it did. -/
def fnExactInTreeUpToSpec : ChangeSpec := { name := "fnExactInTreeUpTo", fn := fun _ => fun
  | [d1, d2, d3, d4] => { results := [.lit (.bool true)], args := [d1, d2, d3, d4] }
  | _ => none }
def fnExactInTreeUpToRow : OpenClaim := { program := "ytalefpiakicimaa", sum := "6f53b77f24534ea88ef25f0a70eae52557176292df6022b8aafecec677b4b817", func := "loop.example/g01293/laws.FnExactInTreeUpTo", spec := "fnExactInTreeUpTo", unfollowed := true, recurses := true, apart := false }
def FnExactInTreeUpToSaid : Prop := fnExactInTreeUpToRow.holds Try.pinned (OpenSpec.ofChange fnExactInTreeUpToSpec)

/-- ITS FALSE NEIGHBOUR: 'it returns false'. Refute it at one input. -/
def fnExactInTreeUpToWrong : ChangeSpec := { name := "fnExactInTreeUpTo", fn := fun _ => fun
  | [d1, d2, d3, d4] => { results := [.lit (.bool false)], args := [d1, d2, d3, d4] }
  | _ => none }
def FnExactInTreeUpToWrongFalsely : Prop := fnExactInTreeUpToRow.holds Try.pinned (OpenSpec.ofChange fnExactInTreeUpToWrong)

/-- 'laws.FnExactFirstLevelOf': WHATEVER THE INPUT: true; the input reads as it did. -/
def fnExactFirstLevelOfSpec : ChangeSpec := { name := "fnExactFirstLevelOf", fn := fun _ => fun
  | [d1, d2, d3, d4] => { results := [.lit (.bool true)], args := [d1, d2, d3, d4] }
  | _ => none }
def fnExactFirstLevelOfRow : OpenClaim := { program := "ytalefpiakicimaa", sum := "6f53b77f24534ea88ef25f0a70eae52557176292df6022b8aafecec677b4b817", func := "loop.example/g01293/laws.FnExactFirstLevelOf", spec := "fnExactFirstLevelOf", unfollowed := true, recurses := true, apart := false }
def FnExactFirstLevelOfSaid : Prop := fnExactFirstLevelOfRow.holds Try.pinned (OpenSpec.ofChange fnExactFirstLevelOfSpec)

/-- ITS FALSE NEIGHBOUR: 'it returns false'. Refute it at one input. -/
def fnExactFirstLevelOfWrong : ChangeSpec := { name := "fnExactFirstLevelOf", fn := fun _ => fun
  | [d1, d2, d3, d4] => { results := [.lit (.bool false)], args := [d1, d2, d3, d4] }
  | _ => none }
def FnExactFirstLevelOfWrongFalsely : Prop := fnExactFirstLevelOfRow.holds Try.pinned (OpenSpec.ofChange fnExactFirstLevelOfWrong)

/-- 'laws.FnExactPathToRoot': WHATEVER THE INPUT: true; the input reads as it did. -/
def fnExactPathToRootSpec : ChangeSpec := { name := "fnExactPathToRoot", fn := fun _ => fun
  | [d1, d2, d3, d4] => { results := [.lit (.bool true)], args := [d1, d2, d3, d4] }
  | _ => none }
def fnExactPathToRootRow : OpenClaim := { program := "ytalefpiakicimaa", sum := "6f53b77f24534ea88ef25f0a70eae52557176292df6022b8aafecec677b4b817", func := "loop.example/g01293/laws.FnExactPathToRoot", spec := "fnExactPathToRoot", unfollowed := true, recurses := true, apart := false }
def FnExactPathToRootSaid : Prop := fnExactPathToRootRow.holds Try.pinned (OpenSpec.ofChange fnExactPathToRootSpec)

/-- ITS FALSE NEIGHBOUR: 'it returns false'. Refute it at one input. -/
def fnExactPathToRootWrong : ChangeSpec := { name := "fnExactPathToRoot", fn := fun _ => fun
  | [d1, d2, d3, d4] => { results := [.lit (.bool false)], args := [d1, d2, d3, d4] }
  | _ => none }
def FnExactPathToRootWrongFalsely : Prop := fnExactPathToRootRow.holds Try.pinned (OpenSpec.ofChange fnExactPathToRootWrong)

/- THE SECOND FORM. 'bulk': how many values and letters a reading holds, each counted each time it is reached (what is shared counts as often as it is met; a slice's spare places count too). A statement '..UptoSaid' is the law's where the arguments, and the package variables that the reading takes, are together of bulk at most 1048576: NARROWER than '..Said'. Prove '..Said' where nothing that the law and all that it calls make is longer than what came in: it says more and counts as full. Else prove '..UptoSaid'. A law counts once. -/
mutual
def uptoBulk {H : Type} : DataW H → Nat
  | .lit (.string bytes) => bytes.length + 1
  | .lit _ => 1
  | .nil => 1
  | .ptr d => uptoBulk d + 1
  | .slice elems spare => uptoBulkAll elems + uptoBulkAll spare + 1
  | .agg parts => uptoBulkAll parts + 1
  | .iface _ d => uptoBulk d + 1
  | .map entries => uptoBulkEntries entries + 1
  | .held _ => 1
def uptoBulkAll {H : Type} : List (DataW H) → Nat
  | [] => 0
  | d :: r => uptoBulk d + uptoBulkAll r
def uptoBulkEntries {H : Type} : List (Lit × DataW H) → Nat
  | [] => 0
  | x :: r => uptoBulkEntry x + uptoBulkEntries r
def uptoBulkEntry {H : Type} : Lit × DataW H → Nat
  | (.string bytes, d) => bytes.length + uptoBulk d + 1
  | (_, d) => uptoBulk d + 1
 end
def uptoSmall : (H : Type) → List (DataW H) → Bool := fun _ ds => decide (uptoBulkAll ds ≤ 1048576)
def OpenSpec.upto (s : _root_.Go.ChangeSpec) : _root_.Go.OpenSpec := { _root_.Go.OpenSpec.ofChange s with cond := some uptoSmall }

/-- 'laws.FnExactNumbersBefore', WHERE WHAT IT READS IS OF BULK AT MOST 1048576: true; the input reads as it did. -/
def fnExactNumbersBeforeUptoRow : OpenClaim := { program := "ytalefpiakicimaa", sum := "6f53b77f24534ea88ef25f0a70eae52557176292df6022b8aafecec677b4b817", func := "loop.example/g01293/laws.FnExactNumbersBefore", spec := "fnExactNumbersBefore", unfollowed := true, recurses := true, apart := false, narrowed := true }
def FnExactNumbersBeforeUptoSaid : Prop := fnExactNumbersBeforeUptoRow.holds Try.pinned (OpenSpec.upto fnExactNumbersBeforeSpec)

/-- 'laws.FnExactLevelOf', WHERE WHAT IT READS IS OF BULK AT MOST 1048576: true; the input reads as it did. -/
def fnExactLevelOfUptoRow : OpenClaim := { program := "ytalefpiakicimaa", sum := "6f53b77f24534ea88ef25f0a70eae52557176292df6022b8aafecec677b4b817", func := "loop.example/g01293/laws.FnExactLevelOf", spec := "fnExactLevelOf", unfollowed := true, recurses := true, apart := false, narrowed := true }
def FnExactLevelOfUptoSaid : Prop := fnExactLevelOfUptoRow.holds Try.pinned (OpenSpec.upto fnExactLevelOfSpec)

/-- 'laws.FnExactLevelSizes', WHERE WHAT IT READS IS OF BULK AT MOST 1048576: true; the input reads as it did. -/
def fnExactLevelSizesUptoRow : OpenClaim := { program := "ytalefpiakicimaa", sum := "6f53b77f24534ea88ef25f0a70eae52557176292df6022b8aafecec677b4b817", func := "loop.example/g01293/laws.FnExactLevelSizes", spec := "fnExactLevelSizes", unfollowed := true, recurses := true, apart := false, narrowed := true }
def FnExactLevelSizesUptoSaid : Prop := fnExactLevelSizesUptoRow.holds Try.pinned (OpenSpec.upto fnExactLevelSizesSpec)

/-- 'laws.FnExactIsInLevel', WHERE WHAT IT READS IS OF BULK AT MOST 1048576: true; the input reads as it did. -/
def fnExactIsInLevelUptoRow : OpenClaim := { program := "ytalefpiakicimaa", sum := "6f53b77f24534ea88ef25f0a70eae52557176292df6022b8aafecec677b4b817", func := "loop.example/g01293/laws.FnExactIsInLevel", spec := "fnExactIsInLevel", unfollowed := true, recurses := true, apart := false, narrowed := true }
def FnExactIsInLevelUptoSaid : Prop := fnExactIsInLevelUptoRow.holds Try.pinned (OpenSpec.upto fnExactIsInLevelSpec)

/-- 'laws.FnExactLeastOfLevel', WHERE WHAT IT READS IS OF BULK AT MOST 1048576: true; the input reads as it did. -/
def fnExactLeastOfLevelUptoRow : OpenClaim := { program := "ytalefpiakicimaa", sum := "6f53b77f24534ea88ef25f0a70eae52557176292df6022b8aafecec677b4b817", func := "loop.example/g01293/laws.FnExactLeastOfLevel", spec := "fnExactLeastOfLevel", unfollowed := true, recurses := true, apart := false, narrowed := true }
def FnExactLeastOfLevelUptoSaid : Prop := fnExactLeastOfLevelUptoRow.holds Try.pinned (OpenSpec.upto fnExactLeastOfLevelSpec)

/-- 'laws.FnExactCountOddOfLevel', WHERE WHAT IT READS IS OF BULK AT MOST 1048576: true; the input reads as it did. -/
def fnExactCountOddOfLevelUptoRow : OpenClaim := { program := "ytalefpiakicimaa", sum := "6f53b77f24534ea88ef25f0a70eae52557176292df6022b8aafecec677b4b817", func := "loop.example/g01293/laws.FnExactCountOddOfLevel", spec := "fnExactCountOddOfLevel", unfollowed := true, recurses := true, apart := false, narrowed := true }
def FnExactCountOddOfLevelUptoSaid : Prop := fnExactCountOddOfLevelUptoRow.holds Try.pinned (OpenSpec.upto fnExactCountOddOfLevelSpec)

/-- 'laws.FnExactBarrenOfLevel', WHERE WHAT IT READS IS OF BULK AT MOST 1048576: true; the input reads as it did. -/
def fnExactBarrenOfLevelUptoRow : OpenClaim := { program := "ytalefpiakicimaa", sum := "6f53b77f24534ea88ef25f0a70eae52557176292df6022b8aafecec677b4b817", func := "loop.example/g01293/laws.FnExactBarrenOfLevel", spec := "fnExactBarrenOfLevel", unfollowed := true, recurses := true, apart := false, narrowed := true }
def FnExactBarrenOfLevelUptoSaid : Prop := fnExactBarrenOfLevelUptoRow.holds Try.pinned (OpenSpec.upto fnExactBarrenOfLevelSpec)

/-- 'laws.FnExactShortBefore', WHERE WHAT IT READS IS OF BULK AT MOST 1048576: true; the input reads as it did. -/
def fnExactShortBeforeUptoRow : OpenClaim := { program := "ytalefpiakicimaa", sum := "6f53b77f24534ea88ef25f0a70eae52557176292df6022b8aafecec677b4b817", func := "loop.example/g01293/laws.FnExactShortBefore", spec := "fnExactShortBefore", unfollowed := true, recurses := true, apart := false, narrowed := true }
def FnExactShortBeforeUptoSaid : Prop := fnExactShortBeforeUptoRow.holds Try.pinned (OpenSpec.upto fnExactShortBeforeSpec)

/-- 'laws.FnExactShortLevel', WHERE WHAT IT READS IS OF BULK AT MOST 1048576: true; the input reads as it did. -/
def fnExactShortLevelUptoRow : OpenClaim := { program := "ytalefpiakicimaa", sum := "6f53b77f24534ea88ef25f0a70eae52557176292df6022b8aafecec677b4b817", func := "loop.example/g01293/laws.FnExactShortLevel", spec := "fnExactShortLevel", unfollowed := true, recurses := true, apart := false, narrowed := true }
def FnExactShortLevelUptoSaid : Prop := fnExactShortLevelUptoRow.holds Try.pinned (OpenSpec.upto fnExactShortLevelSpec)

/-- 'laws.FnExactInTreeUpTo', WHERE WHAT IT READS IS OF BULK AT MOST 1048576: true; the input reads as it did. -/
def fnExactInTreeUpToUptoRow : OpenClaim := { program := "ytalefpiakicimaa", sum := "6f53b77f24534ea88ef25f0a70eae52557176292df6022b8aafecec677b4b817", func := "loop.example/g01293/laws.FnExactInTreeUpTo", spec := "fnExactInTreeUpTo", unfollowed := true, recurses := true, apart := false, narrowed := true }
def FnExactInTreeUpToUptoSaid : Prop := fnExactInTreeUpToUptoRow.holds Try.pinned (OpenSpec.upto fnExactInTreeUpToSpec)

/-- 'laws.FnExactFirstLevelOf', WHERE WHAT IT READS IS OF BULK AT MOST 1048576: true; the input reads as it did. -/
def fnExactFirstLevelOfUptoRow : OpenClaim := { program := "ytalefpiakicimaa", sum := "6f53b77f24534ea88ef25f0a70eae52557176292df6022b8aafecec677b4b817", func := "loop.example/g01293/laws.FnExactFirstLevelOf", spec := "fnExactFirstLevelOf", unfollowed := true, recurses := true, apart := false, narrowed := true }
def FnExactFirstLevelOfUptoSaid : Prop := fnExactFirstLevelOfUptoRow.holds Try.pinned (OpenSpec.upto fnExactFirstLevelOfSpec)

/-- 'laws.FnExactPathToRoot', WHERE WHAT IT READS IS OF BULK AT MOST 1048576: true; the input reads as it did. -/
def fnExactPathToRootUptoRow : OpenClaim := { program := "ytalefpiakicimaa", sum := "6f53b77f24534ea88ef25f0a70eae52557176292df6022b8aafecec677b4b817", func := "loop.example/g01293/laws.FnExactPathToRoot", spec := "fnExactPathToRoot", unfollowed := true, recurses := true, apart := false, narrowed := true }
def FnExactPathToRootUptoSaid : Prop := fnExactPathToRootUptoRow.holds Try.pinned (OpenSpec.upto fnExactPathToRootSpec)

end Rows
end Go.Proofs.Ytalefpiakicimaa
