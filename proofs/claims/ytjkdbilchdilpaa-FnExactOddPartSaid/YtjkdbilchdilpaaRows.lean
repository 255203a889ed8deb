/-
  No cell of these rows narrows 'for every input' (looked for: loops, veiled, ifaces, maps, wideKeys, modest, calm, conditions, laid).
  DERIVED. THE GIVEN ROWS OF THIS SEAT. 3 by the template 'for every input the law returns true; each argument reads behind the call as it read before'; 0 by the template 'total and deterministic' (their statements: YtjkdbilchdilpaaTotals.lean).
  GIVEN WITH THE SEED: the statements are not yours to turn. If you find one false, say at which input.
  Laid BY PROGRAM, IN A SANDBOX (cutbox-rows.mjs): the forced cells as the released guide's own fill.sh prints them over the translation 7967c1ee5c825449… (all of the seat's roots in one cut). By AI agents, Wed Nov 11 2026. No macro, syntax, notation, axiom, sorry.
-/
import Derived.Test.YtjkdbilchdilpaaChecked
import GoSem.Claim
import GoSem.ClaimJoined
import GoSem.ClaimMapViews
import Derived.JoinedTies
import Derived.KernelRfl
namespace Go.Proofs.Ytjkdbilchdilpaa
/- THE CELL 'sum', in the pinned program and in every row, IS THE sha256 OF THE DUMP (.gsa) THAT YtjkdbilchdilpaaProg.lean LOADS. Nothing in Lean hashes anything: it is a label: what it is worth is what the hold of that sum in a sandbox is worth. -/
noncomputable def Try.pinned : Pinned := { name := "ytjkdbilchdilpaa", sum := "7967c1ee5c82544974482bf60544fe089af768fbb4a50b5328fc740d5ea47f6f", checked := Try.checked }
namespace Rows
def none {H : Type} : Left H := { results := [], args := [] }

/-- 'laws.FnExactIsMap': WHATEVER THE INPUT: true; the input reads as it did. -/
def fnExactIsMapSpec : ChangeSpec := { name := "fnExactIsMap", fn := fun _ => fun
  | [d] => { results := [.lit (.bool true)], args := [d] }
  | _ => none }
def fnExactIsMapRow : OpenClaim := { program := "ytjkdbilchdilpaa", sum := "7967c1ee5c82544974482bf60544fe089af768fbb4a50b5328fc740d5ea47f6f", func := "loop.example/g01293/laws.FnExactIsMap", spec := "fnExactIsMap", apart := false }
def FnExactIsMapSaid : Prop := fnExactIsMapRow.holds Try.pinned (OpenSpec.ofChange fnExactIsMapSpec)

/-- ITS FALSE NEIGHBOUR: 'it returns false'. Refute it at one input. -/
def fnExactIsMapWrong : ChangeSpec := { name := "fnExactIsMap", fn := fun _ => fun
  | [d] => { results := [.lit (.bool false)], args := [d] }
  | _ => none }
def FnExactIsMapWrongFalsely : Prop := fnExactIsMapRow.holds Try.pinned (OpenSpec.ofChange fnExactIsMapWrong)

/-- 'laws.FnExactOddPart': WHATEVER THE INPUT: true; the input reads as it did. -/
def fnExactOddPartSpec : ChangeSpec := { name := "fnExactOddPart", fn := fun _ => fun
  | [d] => { results := [.lit (.bool true)], args := [d] }
  | _ => none }
def fnExactOddPartRow : OpenClaim := { program := "ytjkdbilchdilpaa", sum := "7967c1ee5c82544974482bf60544fe089af768fbb4a50b5328fc740d5ea47f6f", func := "loop.example/g01293/laws.FnExactOddPart", spec := "fnExactOddPart", apart := false }
def FnExactOddPartSaid : Prop := fnExactOddPartRow.holds Try.pinned (OpenSpec.ofChange fnExactOddPartSpec)

/-- ITS FALSE NEIGHBOUR: 'it returns false'. Refute it at one input. -/
def fnExactOddPartWrong : ChangeSpec := { name := "fnExactOddPart", fn := fun _ => fun
  | [d] => { results := [.lit (.bool false)], args := [d] }
  | _ => none }
def FnExactOddPartWrongFalsely : Prop := fnExactOddPartRow.holds Try.pinned (OpenSpec.ofChange fnExactOddPartWrong)

/-- 'laws.FnExactNegativeMap': WHATEVER THE INPUT: true; the input reads as it did. -/
def fnExactNegativeMapSpec : ChangeSpec := { name := "fnExactNegativeMap", fn := fun _ => fun
  | [d] => { results := [.lit (.bool true)], args := [d] }
  | _ => none }
def fnExactNegativeMapRow : OpenClaim := { program := "ytjkdbilchdilpaa", sum := "7967c1ee5c82544974482bf60544fe089af768fbb4a50b5328fc740d5ea47f6f", func := "loop.example/g01293/laws.FnExactNegativeMap", spec := "fnExactNegativeMap", apart := false }
def FnExactNegativeMapSaid : Prop := fnExactNegativeMapRow.holds Try.pinned (OpenSpec.ofChange fnExactNegativeMapSpec)

/-- ITS FALSE NEIGHBOUR: 'it returns false'. Refute it at one input. -/
def fnExactNegativeMapWrong : ChangeSpec := { name := "fnExactNegativeMap", fn := fun _ => fun
  | [d] => { results := [.lit (.bool false)], args := [d] }
  | _ => none }
def FnExactNegativeMapWrongFalsely : Prop := fnExactNegativeMapRow.holds Try.pinned (OpenSpec.ofChange fnExactNegativeMapWrong)

/- THE SECOND FORM. 'bulk': how many values and letters a reading holds, each counted each time it is reached (what is shared counts as often as it is met; a slice's spare places count too). A statement '..UptoSaid' is the law's where the arguments, and the package variables that the reading takes, are together of bulk at most 1048576: NARROWER than '..Said'. Prove '..Said' where nothing that the law and all that it calls make is longer than what came in: it says more and counts as full. Else prove '..UptoSaid'. A law counts once. -/
mutual
def uptoBulk {H : Type} : DataW H → Nat
  | .lit (.string bytes) => bytes.length + 1
  | .lit _ => 1
  | .nil => 1
  | .ptr d => uptoBulk d + 1
  | .slice elems spare => uptoBulkAll elems + uptoBulkAll spare + 1
  | .agg parts => uptoBulkAll parts + 1
  | .iface _ d => uptoBulk d + 1
  | .map entries => uptoBulkEntries entries + 1
  | .held _ => 1
def uptoBulkAll {H : Type} : List (DataW H) → Nat
  | [] => 0
  | d :: r => uptoBulk d + uptoBulkAll r
def uptoBulkEntries {H : Type} : List (Lit × DataW H) → Nat
  | [] => 0
  | x :: r => uptoBulkEntry x + uptoBulkEntries r
def uptoBulkEntry {H : Type} : Lit × DataW H → Nat
  | (.string bytes, d) => bytes.length + uptoBulk d + 1
  | (_, d) => uptoBulk d + 1
 end
def uptoSmall : (H : Type) → List (DataW H) → Bool := fun _ ds => decide (uptoBulkAll ds ≤ 1048576)
def OpenSpec.upto (s : _root_.Go.ChangeSpec) : _root_.Go.OpenSpec := { _root_.Go.OpenSpec.ofChange s with cond := some uptoSmall }

/-- 'laws.FnExactIsMap', WHERE WHAT IT READS IS OF BULK AT MOST 1048576: true; the input reads as it did. -/
def fnExactIsMapUptoRow : OpenClaim := { program := "ytjkdbilchdilpaa", sum := "7967c1ee5c82544974482bf60544fe089af768fbb4a50b5328fc740d5ea47f6f", func := "loop.example/g01293/laws.FnExactIsMap", spec := "fnExactIsMap", apart := false, narrowed := true }
def FnExactIsMapUptoSaid : Prop := fnExactIsMapUptoRow.holds Try.pinned (OpenSpec.upto fnExactIsMapSpec)

/-- 'laws.FnExactOddPart', WHERE WHAT IT READS IS OF BULK AT MOST 1048576: true; the input reads as it did. -/
def fnExactOddPartUptoRow : OpenClaim := { program := "ytjkdbilchdilpaa", sum := "7967c1ee5c82544974482bf60544fe089af768fbb4a50b5328fc740d5ea47f6f", func := "loop.example/g01293/laws.FnExactOddPart", spec := "fnExactOddPart", apart := false, narrowed := true }
def FnExactOddPartUptoSaid : Prop := fnExactOddPartUptoRow.holds Try.pinned (OpenSpec.upto fnExactOddPartSpec)

/-- 'laws.FnExactNegativeMap', WHERE WHAT IT READS IS OF BULK AT MOST 1048576: true; the input reads as it did. -/
def fnExactNegativeMapUptoRow : OpenClaim := { program := "ytjkdbilchdilpaa", sum := "7967c1ee5c82544974482bf60544fe089af768fbb4a50b5328fc740d5ea47f6f", func := "loop.example/g01293/laws.FnExactNegativeMap", spec := "fnExactNegativeMap", apart := false, narrowed := true }
def FnExactNegativeMapUptoSaid : Prop := fnExactNegativeMapUptoRow.holds Try.pinned (OpenSpec.upto fnExactNegativeMapSpec)

end Rows
end Go.Proofs.Ytjkdbilchdilpaa
