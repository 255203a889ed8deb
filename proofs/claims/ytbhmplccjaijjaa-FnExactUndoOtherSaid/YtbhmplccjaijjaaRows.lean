/-
  No cell of these rows narrows 'for every input' (looked for: loops, veiled, ifaces, maps, wideKeys, modest, calm, conditions, laid).
  DERIVED. THE GIVEN ROWS OF THIS SEAT. 12 by the template 'for every input the law returns true; each argument reads behind the call as it read before'; 0 by the template 'total and deterministic' (their statements: YtbhmplccjaijjaaTotals.lean).
  GIVEN WITH THE SEED: the statements are not yours to turn. If you find one false, say at which input.
  Laid BY PROGRAM, IN A SANDBOX (cutbox-rows.mjs): the forced cells as the released guide's own fill.sh prints them over the translation 4bba9d80fb266ad9… (all of the seat's roots in one cut). By AI agents, Wed Nov 11 2026. No macro, syntax, notation, axiom, sorry.
-/
import Derived.Test.YtbhmplccjaijjaaChecked
import GoSem.Claim
import GoSem.ClaimJoined
import GoSem.ClaimMapViews
import Derived.JoinedTies
import Derived.KernelRfl
namespace Go.Proofs.Ytbhmplccjaijjaa
/- THE CELL 'sum', in the pinned program and in every row, IS THE sha256 OF THE DUMP (.gsa) THAT YtbhmplccjaijjaaProg.lean LOADS. Nothing in Lean hashes anything: it is a label: what it is worth is what the hold of that sum in a sandbox is worth. -/
noncomputable def Try.pinned : Pinned := { name := "ytbhmplccjaijjaa", sum := "4bba9d80fb266ad985ae4cdc038bc1326eda13d88786882e25f6201bd486e90c", checked := Try.checked }
namespace Rows
def none {H : Type} : Left H := { results := [], args := [] }

/-- 'laws.FnExactIsOther': WHATEVER THE INPUT: true; the input reads as it did. -/
def fnExactIsOtherSpec : ChangeSpec := { name := "fnExactIsOther", fn := fun _ => fun
  | [d] => { results := [.lit (.bool true)], args := [d] }
  | _ => none }
def fnExactIsOtherRow : OpenClaim := { program := "ytbhmplccjaijjaa", sum := "4bba9d80fb266ad985ae4cdc038bc1326eda13d88786882e25f6201bd486e90c", func := "loop.example/g01293/laws.FnExactIsOther", spec := "fnExactIsOther", unfollowed := true, recurses := true, apart := false }
def FnExactIsOtherSaid : Prop := fnExactIsOtherRow.holds Try.pinned (OpenSpec.ofChange fnExactIsOtherSpec)

/-- ITS FALSE NEIGHBOUR: 'it returns false'. Refute it at one input. -/
def fnExactIsOtherWrong : ChangeSpec := { name := "fnExactIsOther", fn := fun _ => fun
  | [d] => { results := [.lit (.bool false)], args := [d] }
  | _ => none }
def FnExactIsOtherWrongFalsely : Prop := fnExactIsOtherRow.holds Try.pinned (OpenSpec.ofChange fnExactIsOtherWrong)

/-- 'laws.FnExactOtherNext': WHATEVER THE INPUT: true; the input reads as it did. -/
def fnExactOtherNextSpec : ChangeSpec := { name := "fnExactOtherNext", fn := fun _ => fun
  | [d1, d2] => { results := [.lit (.bool true)], args := [d1, d2] }
  | _ => none }
def fnExactOtherNextRow : OpenClaim := { program := "ytbhmplccjaijjaa", sum := "4bba9d80fb266ad985ae4cdc038bc1326eda13d88786882e25f6201bd486e90c", func := "loop.example/g01293/laws.FnExactOtherNext", spec := "fnExactOtherNext", unfollowed := true, recurses := true, apart := false }
def FnExactOtherNextSaid : Prop := fnExactOtherNextRow.holds Try.pinned (OpenSpec.ofChange fnExactOtherNextSpec)

/-- ITS FALSE NEIGHBOUR: 'it returns false'. Refute it at one input. -/
def fnExactOtherNextWrong : ChangeSpec := { name := "fnExactOtherNext", fn := fun _ => fun
  | [d1, d2] => { results := [.lit (.bool false)], args := [d1, d2] }
  | _ => none }
def FnExactOtherNextWrongFalsely : Prop := fnExactOtherNextRow.holds Try.pinned (OpenSpec.ofChange fnExactOtherNextWrong)

/-- 'laws.FnExactOtherAfter': WHATEVER THE INPUT: true; the input reads as it did. -/
def fnExactOtherAfterSpec : ChangeSpec := { name := "fnExactOtherAfter", fn := fun _ => fun
  | [d1, d2, d3] => { results := [.lit (.bool true)], args := [d1, d2, d3] }
  | _ => none }
def fnExactOtherAfterRow : OpenClaim := { program := "ytbhmplccjaijjaa", sum := "4bba9d80fb266ad985ae4cdc038bc1326eda13d88786882e25f6201bd486e90c", func := "loop.example/g01293/laws.FnExactOtherAfter", spec := "fnExactOtherAfter", unfollowed := true, recurses := true, apart := false }
def FnExactOtherAfterSaid : Prop := fnExactOtherAfterRow.holds Try.pinned (OpenSpec.ofChange fnExactOtherAfterSpec)

/-- ITS FALSE NEIGHBOUR: 'it returns false'. Refute it at one input. -/
def fnExactOtherAfterWrong : ChangeSpec := { name := "fnExactOtherAfter", fn := fun _ => fun
  | [d1, d2, d3] => { results := [.lit (.bool false)], args := [d1, d2, d3] }
  | _ => none }
def FnExactOtherAfterWrongFalsely : Prop := fnExactOtherAfterRow.holds Try.pinned (OpenSpec.ofChange fnExactOtherAfterWrong)

/-- 'laws.FnExactOtherPath': WHATEVER THE INPUT: true; the input reads as it did. -/
def fnExactOtherPathSpec : ChangeSpec := { name := "fnExactOtherPath", fn := fun _ => fun
  | [d1, d2, d3] => { results := [.lit (.bool true)], args := [d1, d2, d3] }
  | _ => none }
def fnExactOtherPathRow : OpenClaim := { program := "ytbhmplccjaijjaa", sum := "4bba9d80fb266ad985ae4cdc038bc1326eda13d88786882e25f6201bd486e90c", func := "loop.example/g01293/laws.FnExactOtherPath", spec := "fnExactOtherPath", unfollowed := true, recurses := true, apart := false }
def FnExactOtherPathSaid : Prop := fnExactOtherPathRow.holds Try.pinned (OpenSpec.ofChange fnExactOtherPathSpec)

/-- ITS FALSE NEIGHBOUR: 'it returns false'. Refute it at one input. -/
def fnExactOtherPathWrong : ChangeSpec := { name := "fnExactOtherPath", fn := fun _ => fun
  | [d1, d2, d3] => { results := [.lit (.bool false)], args := [d1, d2, d3] }
  | _ => none }
def FnExactOtherPathWrongFalsely : Prop := fnExactOtherPathRow.holds Try.pinned (OpenSpec.ofChange fnExactOtherPathWrong)

/-- 'laws.FnExactOtherBefore': WHATEVER THE INPUT: true; the input reads as it did. -/
def fnExactOtherBeforeSpec : ChangeSpec := { name := "fnExactOtherBefore", fn := fun _ => fun
  | [d1, d2] => { results := [.lit (.bool true)], args := [d1, d2] }
  | _ => none }
def fnExactOtherBeforeRow : OpenClaim := { program := "ytbhmplccjaijjaa", sum := "4bba9d80fb266ad985ae4cdc038bc1326eda13d88786882e25f6201bd486e90c", func := "loop.example/g01293/laws.FnExactOtherBefore", spec := "fnExactOtherBefore", unfollowed := true, recurses := true, apart := false }
def FnExactOtherBeforeSaid : Prop := fnExactOtherBeforeRow.holds Try.pinned (OpenSpec.ofChange fnExactOtherBeforeSpec)

/-- ITS FALSE NEIGHBOUR: 'it returns false'. Refute it at one input. -/
def fnExactOtherBeforeWrong : ChangeSpec := { name := "fnExactOtherBefore", fn := fun _ => fun
  | [d1, d2] => { results := [.lit (.bool false)], args := [d1, d2] }
  | _ => none }
def FnExactOtherBeforeWrongFalsely : Prop := fnExactOtherBeforeRow.holds Try.pinned (OpenSpec.ofChange fnExactOtherBeforeWrong)

/-- 'laws.FnExactImagesOf': WHATEVER THE INPUT: true; the input reads as it did. -/
def fnExactImagesOfSpec : ChangeSpec := { name := "fnExactImagesOf", fn := fun _ => fun
  | [d] => { results := [.lit (.bool true)], args := [d] }
  | _ => none }
def fnExactImagesOfRow : OpenClaim := { program := "ytbhmplccjaijjaa", sum := "4bba9d80fb266ad985ae4cdc038bc1326eda13d88786882e25f6201bd486e90c", func := "loop.example/g01293/laws.FnExactImagesOf", spec := "fnExactImagesOf", unfollowed := true, recurses := true, apart := false }
def FnExactImagesOfSaid : Prop := fnExactImagesOfRow.holds Try.pinned (OpenSpec.ofChange fnExactImagesOfSpec)

/-- ITS FALSE NEIGHBOUR: 'it returns false'. Refute it at one input. -/
def fnExactImagesOfWrong : ChangeSpec := { name := "fnExactImagesOf", fn := fun _ => fun
  | [d] => { results := [.lit (.bool false)], args := [d] }
  | _ => none }
def FnExactImagesOfWrongFalsely : Prop := fnExactImagesOfRow.holds Try.pinned (OpenSpec.ofChange fnExactImagesOfWrong)

/-- 'laws.FnExactIsOneToOne': WHATEVER THE INPUT: true; the input reads as it did. -/
def fnExactIsOneToOneSpec : ChangeSpec := { name := "fnExactIsOneToOne", fn := fun _ => fun
  | [d] => { results := [.lit (.bool true)], args := [d] }
  | _ => none }
def fnExactIsOneToOneRow : OpenClaim := { program := "ytbhmplccjaijjaa", sum := "4bba9d80fb266ad985ae4cdc038bc1326eda13d88786882e25f6201bd486e90c", func := "loop.example/g01293/laws.FnExactIsOneToOne", spec := "fnExactIsOneToOne", unfollowed := true, recurses := true, apart := false }
def FnExactIsOneToOneSaid : Prop := fnExactIsOneToOneRow.holds Try.pinned (OpenSpec.ofChange fnExactIsOneToOneSpec)

/-- ITS FALSE NEIGHBOUR: 'it returns false'. Refute it at one input. -/
def fnExactIsOneToOneWrong : ChangeSpec := { name := "fnExactIsOneToOne", fn := fun _ => fun
  | [d] => { results := [.lit (.bool false)], args := [d] }
  | _ => none }
def FnExactIsOneToOneWrongFalsely : Prop := fnExactIsOneToOneRow.holds Try.pinned (OpenSpec.ofChange fnExactIsOneToOneWrong)

/-- 'laws.FnExactUndoOther': WHATEVER THE INPUT: true; the input reads as it did. -/
def fnExactUndoOtherSpec : ChangeSpec := { name := "fnExactUndoOther", fn := fun _ => fun
  | [d1, d2, d3] => { results := [.lit (.bool true)], args := [d1, d2, d3] }
  | _ => none }
def fnExactUndoOtherRow : OpenClaim := { program := "ytbhmplccjaijjaa", sum := "4bba9d80fb266ad985ae4cdc038bc1326eda13d88786882e25f6201bd486e90c", func := "loop.example/g01293/laws.FnExactUndoOther", spec := "fnExactUndoOther", unfollowed := true, recurses := true, apart := false }
def FnExactUndoOtherSaid : Prop := fnExactUndoOtherRow.holds Try.pinned (OpenSpec.ofChange fnExactUndoOtherSpec)

/-- ITS FALSE NEIGHBOUR: 'it returns false'. Refute it at one input. -/
def fnExactUndoOtherWrong : ChangeSpec := { name := "fnExactUndoOther", fn := fun _ => fun
  | [d1, d2, d3] => { results := [.lit (.bool false)], args := [d1, d2, d3] }
  | _ => none }
def FnExactUndoOtherWrongFalsely : Prop := fnExactUndoOtherRow.holds Try.pinned (OpenSpec.ofChange fnExactUndoOtherWrong)

/-- 'laws.FnExactOtherOfMap': WHATEVER THE INPUT: true; the input reads as it did. -/
def fnExactOtherOfMapSpec : ChangeSpec := { name := "fnExactOtherOfMap", fn := fun _ => fun
  | [d] => { results := [.lit (.bool true)], args := [d] }
  | _ => none }
def fnExactOtherOfMapRow : OpenClaim := { program := "ytbhmplccjaijjaa", sum := "4bba9d80fb266ad985ae4cdc038bc1326eda13d88786882e25f6201bd486e90c", func := "loop.example/g01293/laws.FnExactOtherOfMap", spec := "fnExactOtherOfMap", apart := false }
def FnExactOtherOfMapSaid : Prop := fnExactOtherOfMapRow.holds Try.pinned (OpenSpec.ofChange fnExactOtherOfMapSpec)

/-- ITS FALSE NEIGHBOUR: 'it returns false'. Refute it at one input. -/
def fnExactOtherOfMapWrong : ChangeSpec := { name := "fnExactOtherOfMap", fn := fun _ => fun
  | [d] => { results := [.lit (.bool false)], args := [d] }
  | _ => none }
def FnExactOtherOfMapWrongFalsely : Prop := fnExactOtherOfMapRow.holds Try.pinned (OpenSpec.ofChange fnExactOtherOfMapWrong)

/-- 'laws.FnExactDoubleOther': WHATEVER THE INPUT: true; the input reads as it did. -/
def fnExactDoubleOtherSpec : ChangeSpec := { name := "fnExactDoubleOther", fn := fun _ => fun
  | [d] => { results := [.lit (.bool true)], args := [d] }
  | _ => none }
def fnExactDoubleOtherRow : OpenClaim := { program := "ytbhmplccjaijjaa", sum := "4bba9d80fb266ad985ae4cdc038bc1326eda13d88786882e25f6201bd486e90c", func := "loop.example/g01293/laws.FnExactDoubleOther", spec := "fnExactDoubleOther", unfollowed := true, recurses := true, apart := false }
def FnExactDoubleOtherSaid : Prop := fnExactDoubleOtherRow.holds Try.pinned (OpenSpec.ofChange fnExactDoubleOtherSpec)

/-- ITS FALSE NEIGHBOUR: 'it returns false'. Refute it at one input. -/
def fnExactDoubleOtherWrong : ChangeSpec := { name := "fnExactDoubleOther", fn := fun _ => fun
  | [d] => { results := [.lit (.bool false)], args := [d] }
  | _ => none }
def FnExactDoubleOtherWrongFalsely : Prop := fnExactDoubleOtherRow.holds Try.pinned (OpenSpec.ofChange fnExactDoubleOtherWrong)

/-- 'laws.FnExactNegativeOther': WHATEVER THE INPUT: true; the input reads as it did. -/
def fnExactNegativeOtherSpec : ChangeSpec := { name := "fnExactNegativeOther", fn := fun _ => fun
  | [d] => { results := [.lit (.bool true)], args := [d] }
  | _ => none }
def fnExactNegativeOtherRow : OpenClaim := { program := "ytbhmplccjaijjaa", sum := "4bba9d80fb266ad985ae4cdc038bc1326eda13d88786882e25f6201bd486e90c", func := "loop.example/g01293/laws.FnExactNegativeOther", spec := "fnExactNegativeOther", unfollowed := true, recurses := true, apart := false }
def FnExactNegativeOtherSaid : Prop := fnExactNegativeOtherRow.holds Try.pinned (OpenSpec.ofChange fnExactNegativeOtherSpec)

/-- ITS FALSE NEIGHBOUR: 'it returns false'. Refute it at one input. -/
def fnExactNegativeOtherWrong : ChangeSpec := { name := "fnExactNegativeOther", fn := fun _ => fun
  | [d] => { results := [.lit (.bool false)], args := [d] }
  | _ => none }
def FnExactNegativeOtherWrongFalsely : Prop := fnExactNegativeOtherRow.holds Try.pinned (OpenSpec.ofChange fnExactNegativeOtherWrong)

/-- 'laws.FnExactFixedNumbers': WHATEVER THE INPUT: true; the input reads as it did. -/
def fnExactFixedNumbersSpec : ChangeSpec := { name := "fnExactFixedNumbers", fn := fun _ => fun
  | [d] => { results := [.lit (.bool true)], args := [d] }
  | _ => none }
def fnExactFixedNumbersRow : OpenClaim := { program := "ytbhmplccjaijjaa", sum := "4bba9d80fb266ad985ae4cdc038bc1326eda13d88786882e25f6201bd486e90c", func := "loop.example/g01293/laws.FnExactFixedNumbers", spec := "fnExactFixedNumbers", unfollowed := true, recurses := true, apart := false }
def FnExactFixedNumbersSaid : Prop := fnExactFixedNumbersRow.holds Try.pinned (OpenSpec.ofChange fnExactFixedNumbersSpec)

/-- ITS FALSE NEIGHBOUR: 'it returns false'. Refute it at one input. -/
def fnExactFixedNumbersWrong : ChangeSpec := { name := "fnExactFixedNumbers", fn := fun _ => fun
  | [d] => { results := [.lit (.bool false)], args := [d] }
  | _ => none }
def FnExactFixedNumbersWrongFalsely : Prop := fnExactFixedNumbersRow.holds Try.pinned (OpenSpec.ofChange fnExactFixedNumbersWrong)

/- THE SECOND FORM. 'bulk': how many values and letters a reading holds, each counted each time it is reached (what is shared counts as often as it is met; a slice's spare places count too). A statement '..UptoSaid' is the law's where the arguments, and the package variables that the reading takes, are together of bulk at most 1048576: NARROWER than '..Said'. Prove '..Said' where nothing that the law and all that it calls make is longer than what came in: it says more and counts as full. Else prove '..UptoSaid'. A law counts once. -/
mutual
def uptoBulk {H : Type} : DataW H → Nat
  | .lit (.string bytes) => bytes.length + 1
  | .lit _ => 1
  | .nil => 1
  | .ptr d => uptoBulk d + 1
  | .slice elems spare => uptoBulkAll elems + uptoBulkAll spare + 1
  | .agg parts => uptoBulkAll parts + 1
  | .iface _ d => uptoBulk d + 1
  | .map entries => uptoBulkEntries entries + 1
  | .held _ => 1
def uptoBulkAll {H : Type} : List (DataW H) → Nat
  | [] => 0
  | d :: r => uptoBulk d + uptoBulkAll r
def uptoBulkEntries {H : Type} : List (Lit × DataW H) → Nat
  | [] => 0
  | x :: r => uptoBulkEntry x + uptoBulkEntries r
def uptoBulkEntry {H : Type} : Lit × DataW H → Nat
  | (.string bytes, d) => bytes.length + uptoBulk d + 1
  | (_, d) => uptoBulk d + 1
 end
def uptoSmall : (H : Type) → List (DataW H) → Bool := fun _ ds => decide (uptoBulkAll ds ≤ 1048576)
def OpenSpec.upto (s : _root_.Go.ChangeSpec) : _root_.Go.OpenSpec := { _root_.Go.OpenSpec.ofChange s with cond := some uptoSmall }

/-- 'laws.FnExactIsOther', WHERE WHAT IT READS IS OF BULK AT MOST 1048576: true; the input reads as it did. -/
def fnExactIsOtherUptoRow : OpenClaim := { program := "ytbhmplccjaijjaa", sum := "4bba9d80fb266ad985ae4cdc038bc1326eda13d88786882e25f6201bd486e90c", func := "loop.example/g01293/laws.FnExactIsOther", spec := "fnExactIsOther", unfollowed := true, recurses := true, apart := false, narrowed := true }
def FnExactIsOtherUptoSaid : Prop := fnExactIsOtherUptoRow.holds Try.pinned (OpenSpec.upto fnExactIsOtherSpec)

/-- 'laws.FnExactOtherNext', WHERE WHAT IT READS IS OF BULK AT MOST 1048576: true; the input reads as it did. -/
def fnExactOtherNextUptoRow : OpenClaim := { program := "ytbhmplccjaijjaa", sum := "4bba9d80fb266ad985ae4cdc038bc1326eda13d88786882e25f6201bd486e90c", func := "loop.example/g01293/laws.FnExactOtherNext", spec := "fnExactOtherNext", unfollowed := true, recurses := true, apart := false, narrowed := true }
def FnExactOtherNextUptoSaid : Prop := fnExactOtherNextUptoRow.holds Try.pinned (OpenSpec.upto fnExactOtherNextSpec)

/-- 'laws.FnExactOtherAfter', WHERE WHAT IT READS IS OF BULK AT MOST 1048576: true; the input reads as it did. -/
def fnExactOtherAfterUptoRow : OpenClaim := { program := "ytbhmplccjaijjaa", sum := "4bba9d80fb266ad985ae4cdc038bc1326eda13d88786882e25f6201bd486e90c", func := "loop.example/g01293/laws.FnExactOtherAfter", spec := "fnExactOtherAfter", unfollowed := true, recurses := true, apart := false, narrowed := true }
def FnExactOtherAfterUptoSaid : Prop := fnExactOtherAfterUptoRow.holds Try.pinned (OpenSpec.upto fnExactOtherAfterSpec)

/-- 'laws.FnExactOtherPath', WHERE WHAT IT READS IS OF BULK AT MOST 1048576: true; the input reads as it did. -/
def fnExactOtherPathUptoRow : OpenClaim := { program := "ytbhmplccjaijjaa", sum := "4bba9d80fb266ad985ae4cdc038bc1326eda13d88786882e25f6201bd486e90c", func := "loop.example/g01293/laws.FnExactOtherPath", spec := "fnExactOtherPath", unfollowed := true, recurses := true, apart := false, narrowed := true }
def FnExactOtherPathUptoSaid : Prop := fnExactOtherPathUptoRow.holds Try.pinned (OpenSpec.upto fnExactOtherPathSpec)

/-- 'laws.FnExactOtherBefore', WHERE WHAT IT READS IS OF BULK AT MOST 1048576: true; the input reads as it did. -/
def fnExactOtherBeforeUptoRow : OpenClaim := { program := "ytbhmplccjaijjaa", sum := "4bba9d80fb266ad985ae4cdc038bc1326eda13d88786882e25f6201bd486e90c", func := "loop.example/g01293/laws.FnExactOtherBefore", spec := "fnExactOtherBefore", unfollowed := true, recurses := true, apart := false, narrowed := true }
def FnExactOtherBeforeUptoSaid : Prop := fnExactOtherBeforeUptoRow.holds Try.pinned (OpenSpec.upto fnExactOtherBeforeSpec)

/-- 'laws.FnExactImagesOf', WHERE WHAT IT READS IS OF BULK AT MOST 1048576: true; the input reads as it did. -/
def fnExactImagesOfUptoRow : OpenClaim := { program := "ytbhmplccjaijjaa", sum := "4bba9d80fb266ad985ae4cdc038bc1326eda13d88786882e25f6201bd486e90c", func := "loop.example/g01293/laws.FnExactImagesOf", spec := "fnExactImagesOf", unfollowed := true, recurses := true, apart := false, narrowed := true }
def FnExactImagesOfUptoSaid : Prop := fnExactImagesOfUptoRow.holds Try.pinned (OpenSpec.upto fnExactImagesOfSpec)

/-- 'laws.FnExactIsOneToOne', WHERE WHAT IT READS IS OF BULK AT MOST 1048576: true; the input reads as it did. -/
def fnExactIsOneToOneUptoRow : OpenClaim := { program := "ytbhmplccjaijjaa", sum := "4bba9d80fb266ad985ae4cdc038bc1326eda13d88786882e25f6201bd486e90c", func := "loop.example/g01293/laws.FnExactIsOneToOne", spec := "fnExactIsOneToOne", unfollowed := true, recurses := true, apart := false, narrowed := true }
def FnExactIsOneToOneUptoSaid : Prop := fnExactIsOneToOneUptoRow.holds Try.pinned (OpenSpec.upto fnExactIsOneToOneSpec)

/-- 'laws.FnExactUndoOther', WHERE WHAT IT READS IS OF BULK AT MOST 1048576: true; the input reads as it did. -/
def fnExactUndoOtherUptoRow : OpenClaim := { program := "ytbhmplccjaijjaa", sum := "4bba9d80fb266ad985ae4cdc038bc1326eda13d88786882e25f6201bd486e90c", func := "loop.example/g01293/laws.FnExactUndoOther", spec := "fnExactUndoOther", unfollowed := true, recurses := true, apart := false, narrowed := true }
def FnExactUndoOtherUptoSaid : Prop := fnExactUndoOtherUptoRow.holds Try.pinned (OpenSpec.upto fnExactUndoOtherSpec)

/-- 'laws.FnExactOtherOfMap', WHERE WHAT IT READS IS OF BULK AT MOST 1048576: true; the input reads as it did. -/
def fnExactOtherOfMapUptoRow : OpenClaim := { program := "ytbhmplccjaijjaa", sum := "4bba9d80fb266ad985ae4cdc038bc1326eda13d88786882e25f6201bd486e90c", func := "loop.example/g01293/laws.FnExactOtherOfMap", spec := "fnExactOtherOfMap", apart := false, narrowed := true }
def FnExactOtherOfMapUptoSaid : Prop := fnExactOtherOfMapUptoRow.holds Try.pinned (OpenSpec.upto fnExactOtherOfMapSpec)

/-- 'laws.FnExactDoubleOther', WHERE WHAT IT READS IS OF BULK AT MOST 1048576: true; the input reads as it did. -/
def fnExactDoubleOtherUptoRow : OpenClaim := { program := "ytbhmplccjaijjaa", sum := "4bba9d80fb266ad985ae4cdc038bc1326eda13d88786882e25f6201bd486e90c", func := "loop.example/g01293/laws.FnExactDoubleOther", spec := "fnExactDoubleOther", unfollowed := true, recurses := true, apart := false, narrowed := true }
def FnExactDoubleOtherUptoSaid : Prop := fnExactDoubleOtherUptoRow.holds Try.pinned (OpenSpec.upto fnExactDoubleOtherSpec)

/-- 'laws.FnExactNegativeOther', WHERE WHAT IT READS IS OF BULK AT MOST 1048576: true; the input reads as it did. -/
def fnExactNegativeOtherUptoRow : OpenClaim := { program := "ytbhmplccjaijjaa", sum := "4bba9d80fb266ad985ae4cdc038bc1326eda13d88786882e25f6201bd486e90c", func := "loop.example/g01293/laws.FnExactNegativeOther", spec := "fnExactNegativeOther", unfollowed := true, recurses := true, apart := false, narrowed := true }
def FnExactNegativeOtherUptoSaid : Prop := fnExactNegativeOtherUptoRow.holds Try.pinned (OpenSpec.upto fnExactNegativeOtherSpec)

/-- 'laws.FnExactFixedNumbers', WHERE WHAT IT READS IS OF BULK AT MOST 1048576: true; the input reads as it did. -/
def fnExactFixedNumbersUptoRow : OpenClaim := { program := "ytbhmplccjaijjaa", sum := "4bba9d80fb266ad985ae4cdc038bc1326eda13d88786882e25f6201bd486e90c", func := "loop.example/g01293/laws.FnExactFixedNumbers", spec := "fnExactFixedNumbers", unfollowed := true, recurses := true, apart := false, narrowed := true }
def FnExactFixedNumbersUptoSaid : Prop := fnExactFixedNumbersUptoRow.holds Try.pinned (OpenSpec.upto fnExactFixedNumbersSpec)

end Rows
end Go.Proofs.Ytbhmplccjaijjaa
