/-
  No cell of these rows narrows 'for every input' (looked for: loops, veiled, ifaces, maps, wideKeys, modest, calm, conditions, laid).
  DERIVED. THE GIVEN ROWS OF THIS SEAT. 4 by the template 'for every input the law returns true; each argument reads behind the call as it read before'; 0 by the template 'total and deterministic' (their statements: YtencblbkbalmcaaTotals.lean).
  GIVEN WITH THE SEED: the statements are not yours to turn. If you find one false, say at which input.
  Laid BY PROGRAM, IN A SANDBOX (cutbox-rows.mjs): the forced cells as the released guide's own fill.sh prints them over the translation f685cde0d463cc7c… (all of the seat's roots in one cut). By AI agents, Wed Nov 11 2026. No macro, syntax, notation, axiom, sorry.
-/
import Derived.Test.YtencblbkbalmcaaChecked
import GoSem.Claim
import GoSem.ClaimJoined
import GoSem.ClaimMapViews
import Derived.JoinedTies
import Derived.KernelRfl
namespace Go.Proofs.Ytencblbkbalmcaa
/- THE CELL 'sum', in the pinned program and in every row, IS THE sha256 OF THE DUMP (.gsa) THAT YtencblbkbalmcaaProg.lean LOADS. Nothing in Lean hashes anything: it is a label: what it is worth is what the hold of that sum in a sandbox is worth. -/
noncomputable def Try.pinned : Pinned := { name := "ytencblbkbalmcaa", sum := "f685cde0d463cc7c7cab2371f5640645696818a40d3f68426916cffd5290b1dd", checked := Try.checked }
namespace Rows
def none {H : Type} : Left H := { results := [], args := [] }

/-- 'laws.FnExactIsFalling': WHATEVER THE INPUT: true; the input reads as it did. -/
def fnExactIsFallingSpec : ChangeSpec := { name := "fnExactIsFalling", fn := fun _ => fun
  | [d1, d2] => { results := [.lit (.bool true)], args := [d1, d2] }
  | _ => none }
def fnExactIsFallingRow : OpenClaim := { program := "ytencblbkbalmcaa", sum := "f685cde0d463cc7c7cab2371f5640645696818a40d3f68426916cffd5290b1dd", func := "loop.example/g01293/laws.FnExactIsFalling", spec := "fnExactIsFalling", inPlace := ["internal/bytealg.CountString", "internal/bytealg.IndexByteString", "internal/bytealg.IndexString"], named := ["internal/bytealg.MaxLen"], apart := false }
def FnExactIsFallingSaid : Prop := fnExactIsFallingRow.holds Try.pinned (OpenSpec.ofChange fnExactIsFallingSpec)

/-- ITS FALSE NEIGHBOUR: 'it returns false'. Refute it at one input. -/
def fnExactIsFallingWrong : ChangeSpec := { name := "fnExactIsFalling", fn := fun _ => fun
  | [d1, d2] => { results := [.lit (.bool false)], args := [d1, d2] }
  | _ => none }
def FnExactIsFallingWrongFalsely : Prop := fnExactIsFallingRow.holds Try.pinned (OpenSpec.ofChange fnExactIsFallingWrong)

/-- 'laws.FnExactCountFallingAt': WHATEVER THE INPUT: true; the input reads as it did. -/
def fnExactCountFallingAtSpec : ChangeSpec := { name := "fnExactCountFallingAt", fn := fun _ => fun
  | [d1, d2] => { results := [.lit (.bool true)], args := [d1, d2] }
  | _ => none }
def fnExactCountFallingAtRow : OpenClaim := { program := "ytencblbkbalmcaa", sum := "f685cde0d463cc7c7cab2371f5640645696818a40d3f68426916cffd5290b1dd", func := "loop.example/g01293/laws.FnExactCountFallingAt", spec := "fnExactCountFallingAt", apart := false }
def FnExactCountFallingAtSaid : Prop := fnExactCountFallingAtRow.holds Try.pinned (OpenSpec.ofChange fnExactCountFallingAtSpec)

/-- ITS FALSE NEIGHBOUR: 'it returns false'. Refute it at one input. -/
def fnExactCountFallingAtWrong : ChangeSpec := { name := "fnExactCountFallingAt", fn := fun _ => fun
  | [d1, d2] => { results := [.lit (.bool false)], args := [d1, d2] }
  | _ => none }
def FnExactCountFallingAtWrongFalsely : Prop := fnExactCountFallingAtRow.holds Try.pinned (OpenSpec.ofChange fnExactCountFallingAtWrong)

/-- 'laws.FnExactCountLeft': WHATEVER THE INPUT: true; the input reads as it did. -/
def fnExactCountLeftSpec : ChangeSpec := { name := "fnExactCountLeft", fn := fun _ => fun
  | [d1, d2] => { results := [.lit (.bool true)], args := [d1, d2] }
  | _ => none }
def fnExactCountLeftRow : OpenClaim := { program := "ytencblbkbalmcaa", sum := "f685cde0d463cc7c7cab2371f5640645696818a40d3f68426916cffd5290b1dd", func := "loop.example/g01293/laws.FnExactCountLeft", spec := "fnExactCountLeft", apart := false }
def FnExactCountLeftSaid : Prop := fnExactCountLeftRow.holds Try.pinned (OpenSpec.ofChange fnExactCountLeftSpec)

/-- ITS FALSE NEIGHBOUR: 'it returns false'. Refute it at one input. -/
def fnExactCountLeftWrong : ChangeSpec := { name := "fnExactCountLeft", fn := fun _ => fun
  | [d1, d2] => { results := [.lit (.bool false)], args := [d1, d2] }
  | _ => none }
def FnExactCountLeftWrongFalsely : Prop := fnExactCountLeftRow.holds Try.pinned (OpenSpec.ofChange fnExactCountLeftWrong)

/-- 'laws.FnExactLeftShare': WHATEVER THE INPUT: true; the input reads as it did. -/
def fnExactLeftShareSpec : ChangeSpec := { name := "fnExactLeftShare", fn := fun _ => fun
  | [d1, d2] => { results := [.lit (.bool true)], args := [d1, d2] }
  | _ => none }
def fnExactLeftShareRow : OpenClaim := { program := "ytencblbkbalmcaa", sum := "f685cde0d463cc7c7cab2371f5640645696818a40d3f68426916cffd5290b1dd", func := "loop.example/g01293/laws.FnExactLeftShare", spec := "fnExactLeftShare", apart := false }
def FnExactLeftShareSaid : Prop := fnExactLeftShareRow.holds Try.pinned (OpenSpec.ofChange fnExactLeftShareSpec)

/-- ITS FALSE NEIGHBOUR: 'it returns false'. Refute it at one input. -/
def fnExactLeftShareWrong : ChangeSpec := { name := "fnExactLeftShare", fn := fun _ => fun
  | [d1, d2] => { results := [.lit (.bool false)], args := [d1, d2] }
  | _ => none }
def FnExactLeftShareWrongFalsely : Prop := fnExactLeftShareRow.holds Try.pinned (OpenSpec.ofChange fnExactLeftShareWrong)

/- THE SECOND FORM. 'bulk': how many values and letters a reading holds, each counted each time it is reached (what is shared counts as often as it is met; a slice's spare places count too). A statement '..UptoSaid' is the law's where the arguments, and the package variables that the reading takes, are together of bulk at most 1048576: NARROWER than '..Said'. Prove '..Said' where nothing that the law and all that it calls make is longer than what came in: it says more and counts as full. Else prove '..UptoSaid'. A law counts once. -/
mutual
def uptoBulk {H : Type} : DataW H → Nat
  | .lit (.string bytes) => bytes.length + 1
  | .lit _ => 1
  | .nil => 1
  | .ptr d => uptoBulk d + 1
  | .slice elems spare => uptoBulkAll elems + uptoBulkAll spare + 1
  | .agg parts => uptoBulkAll parts + 1
  | .iface _ d => uptoBulk d + 1
  | .map entries => uptoBulkEntries entries + 1
  | .held _ => 1
def uptoBulkAll {H : Type} : List (DataW H) → Nat
  | [] => 0
  | d :: r => uptoBulk d + uptoBulkAll r
def uptoBulkEntries {H : Type} : List (Lit × DataW H) → Nat
  | [] => 0
  | x :: r => uptoBulkEntry x + uptoBulkEntries r
def uptoBulkEntry {H : Type} : Lit × DataW H → Nat
  | (.string bytes, d) => bytes.length + uptoBulk d + 1
  | (_, d) => uptoBulk d + 1
 end
def uptoSmall : (H : Type) → List (DataW H) → Bool := fun _ ds => decide (uptoBulkAll ds ≤ 1048576)
def OpenSpec.upto (s : _root_.Go.ChangeSpec) : _root_.Go.OpenSpec := { _root_.Go.OpenSpec.ofChange s with cond := some uptoSmall }

/-- 'laws.FnExactIsFalling', WHERE WHAT IT READS IS OF BULK AT MOST 1048576: true; the input reads as it did. -/
def fnExactIsFallingUptoRow : OpenClaim := { program := "ytencblbkbalmcaa", sum := "f685cde0d463cc7c7cab2371f5640645696818a40d3f68426916cffd5290b1dd", func := "loop.example/g01293/laws.FnExactIsFalling", spec := "fnExactIsFalling", inPlace := ["internal/bytealg.CountString", "internal/bytealg.IndexByteString", "internal/bytealg.IndexString"], named := ["internal/bytealg.MaxLen"], apart := false, narrowed := true }
def FnExactIsFallingUptoSaid : Prop := fnExactIsFallingUptoRow.holds Try.pinned (OpenSpec.upto fnExactIsFallingSpec)

/-- 'laws.FnExactCountFallingAt', WHERE WHAT IT READS IS OF BULK AT MOST 1048576: true; the input reads as it did. -/
def fnExactCountFallingAtUptoRow : OpenClaim := { program := "ytencblbkbalmcaa", sum := "f685cde0d463cc7c7cab2371f5640645696818a40d3f68426916cffd5290b1dd", func := "loop.example/g01293/laws.FnExactCountFallingAt", spec := "fnExactCountFallingAt", apart := false, narrowed := true }
def FnExactCountFallingAtUptoSaid : Prop := fnExactCountFallingAtUptoRow.holds Try.pinned (OpenSpec.upto fnExactCountFallingAtSpec)

/-- 'laws.FnExactCountLeft', WHERE WHAT IT READS IS OF BULK AT MOST 1048576: true; the input reads as it did. -/
def fnExactCountLeftUptoRow : OpenClaim := { program := "ytencblbkbalmcaa", sum := "f685cde0d463cc7c7cab2371f5640645696818a40d3f68426916cffd5290b1dd", func := "loop.example/g01293/laws.FnExactCountLeft", spec := "fnExactCountLeft", apart := false, narrowed := true }
def FnExactCountLeftUptoSaid : Prop := fnExactCountLeftUptoRow.holds Try.pinned (OpenSpec.upto fnExactCountLeftSpec)

/-- 'laws.FnExactLeftShare', WHERE WHAT IT READS IS OF BULK AT MOST 1048576: true; the input reads as it did. -/
def fnExactLeftShareUptoRow : OpenClaim := { program := "ytencblbkbalmcaa", sum := "f685cde0d463cc7c7cab2371f5640645696818a40d3f68426916cffd5290b1dd", func := "loop.example/g01293/laws.FnExactLeftShare", spec := "fnExactLeftShare", apart := false, narrowed := true }
def FnExactLeftShareUptoSaid : Prop := fnExactLeftShareUptoRow.holds Try.pinned (OpenSpec.upto fnExactLeftShareSpec)

end Rows
end Go.Proofs.Ytencblbkbalmcaa
