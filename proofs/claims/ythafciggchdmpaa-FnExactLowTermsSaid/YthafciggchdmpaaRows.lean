/-
  No cell of these rows narrows 'for every input' (looked for: loops, veiled, ifaces, maps, wideKeys, modest, calm, conditions, laid).
  DERIVED. THE GIVEN ROWS OF THIS SEAT. 5 by the template 'for every input the law returns true; each argument reads behind the call as it read before'; 0 by the template 'total and deterministic' (their statements: YthafciggchdmpaaTotals.lean).
  GIVEN WITH THE SEED: the statements are not yours to turn. If you find one false, say at which input.
  Laid BY PROGRAM, IN A SANDBOX (cutbox-rows.mjs): the forced cells as the released guide's own fill.sh prints them over the translation ad1e1056a0b5c0c1… (all of the seat's roots in one cut). By AI agents, Wed Nov 11 2026. No macro, syntax, notation, axiom, sorry.
-/
import Derived.Test.YthafciggchdmpaaChecked
import GoSem.Claim
import GoSem.ClaimJoined
import GoSem.ClaimMapViews
import Derived.JoinedTies
import Derived.KernelRfl
namespace Go.Proofs.Ythafciggchdmpaa
/- THE CELL 'sum', in the pinned program and in every row, IS THE sha256 OF THE DUMP (.gsa) THAT YthafciggchdmpaaProg.lean LOADS. Nothing in Lean hashes anything: it is a label: what it is worth is what the hold of that sum in a sandbox is worth. -/
noncomputable def Try.pinned : Pinned := { name := "ythafciggchdmpaa", sum := "ad1e1056a0b5c0c130ebcda814bac0a9fbcc7e0ab092e01b97b0ce17fcd1faef", checked := Try.checked }
namespace Rows
def none {H : Type} : Left H := { results := [], args := [] }

/-- 'laws.FnExactExponentsOf': WHATEVER THE INPUT: true; the input reads as it did. -/
def fnExactExponentsOfSpec : ChangeSpec := { name := "fnExactExponentsOf", fn := fun _ => fun
  | [d] => { results := [.lit (.bool true)], args := [d] }
  | _ => none }
def fnExactExponentsOfRow : OpenClaim := { program := "ythafciggchdmpaa", sum := "ad1e1056a0b5c0c130ebcda814bac0a9fbcc7e0ab092e01b97b0ce17fcd1faef", func := "loop.example/g01293/laws.FnExactExponentsOf", spec := "fnExactExponentsOf", apart := false }
def FnExactExponentsOfSaid : Prop := fnExactExponentsOfRow.holds Try.pinned (OpenSpec.ofChange fnExactExponentsOfSpec)

/-- ITS FALSE NEIGHBOUR: 'it returns false'. Refute it at one input. -/
def fnExactExponentsOfWrong : ChangeSpec := { name := "fnExactExponentsOf", fn := fun _ => fun
  | [d] => { results := [.lit (.bool false)], args := [d] }
  | _ => none }
def FnExactExponentsOfWrongFalsely : Prop := fnExactExponentsOfRow.holds Try.pinned (OpenSpec.ofChange fnExactExponentsOfWrong)

/-- 'laws.FnExactNumberOfExponents': WHATEVER THE INPUT: true; the input reads as it did. -/
def fnExactNumberOfExponentsSpec : ChangeSpec := { name := "fnExactNumberOfExponents", fn := fun _ => fun
  | [d] => { results := [.lit (.bool true)], args := [d] }
  | _ => none }
def fnExactNumberOfExponentsRow : OpenClaim := { program := "ythafciggchdmpaa", sum := "ad1e1056a0b5c0c130ebcda814bac0a9fbcc7e0ab092e01b97b0ce17fcd1faef", func := "loop.example/g01293/laws.FnExactNumberOfExponents", spec := "fnExactNumberOfExponents", apart := false }
def FnExactNumberOfExponentsSaid : Prop := fnExactNumberOfExponentsRow.holds Try.pinned (OpenSpec.ofChange fnExactNumberOfExponentsSpec)

/-- ITS FALSE NEIGHBOUR: 'it returns false'. Refute it at one input. -/
def fnExactNumberOfExponentsWrong : ChangeSpec := { name := "fnExactNumberOfExponents", fn := fun _ => fun
  | [d] => { results := [.lit (.bool false)], args := [d] }
  | _ => none }
def FnExactNumberOfExponentsWrongFalsely : Prop := fnExactNumberOfExponentsRow.holds Try.pinned (OpenSpec.ofChange fnExactNumberOfExponentsWrong)

/-- 'laws.FnExactAddMachine': WHATEVER THE INPUT: true; the input reads as it did. -/
def fnExactAddMachineSpec : ChangeSpec := { name := "fnExactAddMachine", fn := fun _ => fun
  | [d1, d2] => { results := [.lit (.bool true)], args := [d1, d2] }
  | _ => none }
def fnExactAddMachineRow : OpenClaim := { program := "ythafciggchdmpaa", sum := "ad1e1056a0b5c0c130ebcda814bac0a9fbcc7e0ab092e01b97b0ce17fcd1faef", func := "loop.example/g01293/laws.FnExactAddMachine", spec := "fnExactAddMachine", apart := false }
def FnExactAddMachineSaid : Prop := fnExactAddMachineRow.holds Try.pinned (OpenSpec.ofChange fnExactAddMachineSpec)

/-- ITS FALSE NEIGHBOUR: 'it returns false'. Refute it at one input. -/
def fnExactAddMachineWrong : ChangeSpec := { name := "fnExactAddMachine", fn := fun _ => fun
  | [d1, d2] => { results := [.lit (.bool false)], args := [d1, d2] }
  | _ => none }
def FnExactAddMachineWrongFalsely : Prop := fnExactAddMachineRow.holds Try.pinned (OpenSpec.ofChange fnExactAddMachineWrong)

/-- 'laws.FnExactLesserMachine': WHATEVER THE INPUT: true; the input reads as it did. -/
def fnExactLesserMachineSpec : ChangeSpec := { name := "fnExactLesserMachine", fn := fun _ => fun
  | [d1, d2, d3] => { results := [.lit (.bool true)], args := [d1, d2, d3] }
  | _ => none }
def fnExactLesserMachineRow : OpenClaim := { program := "ythafciggchdmpaa", sum := "ad1e1056a0b5c0c130ebcda814bac0a9fbcc7e0ab092e01b97b0ce17fcd1faef", func := "loop.example/g01293/laws.FnExactLesserMachine", spec := "fnExactLesserMachine", apart := false }
def FnExactLesserMachineSaid : Prop := fnExactLesserMachineRow.holds Try.pinned (OpenSpec.ofChange fnExactLesserMachineSpec)

/-- ITS FALSE NEIGHBOUR: 'it returns false'. Refute it at one input. -/
def fnExactLesserMachineWrong : ChangeSpec := { name := "fnExactLesserMachine", fn := fun _ => fun
  | [d1, d2, d3] => { results := [.lit (.bool false)], args := [d1, d2, d3] }
  | _ => none }
def FnExactLesserMachineWrongFalsely : Prop := fnExactLesserMachineRow.holds Try.pinned (OpenSpec.ofChange fnExactLesserMachineWrong)

/-- 'laws.FnExactLowTerms': WHATEVER THE INPUT: true; the input reads as it did. -/
def fnExactLowTermsSpec : ChangeSpec := { name := "fnExactLowTerms", fn := fun _ => fun
  | [d] => { results := [.lit (.bool true)], args := [d] }
  | _ => none }
def fnExactLowTermsRow : OpenClaim := { program := "ythafciggchdmpaa", sum := "ad1e1056a0b5c0c130ebcda814bac0a9fbcc7e0ab092e01b97b0ce17fcd1faef", func := "loop.example/g01293/laws.FnExactLowTerms", spec := "fnExactLowTerms", apart := false }
def FnExactLowTermsSaid : Prop := fnExactLowTermsRow.holds Try.pinned (OpenSpec.ofChange fnExactLowTermsSpec)

/-- ITS FALSE NEIGHBOUR: 'it returns false'. Refute it at one input. -/
def fnExactLowTermsWrong : ChangeSpec := { name := "fnExactLowTerms", fn := fun _ => fun
  | [d] => { results := [.lit (.bool false)], args := [d] }
  | _ => none }
def FnExactLowTermsWrongFalsely : Prop := fnExactLowTermsRow.holds Try.pinned (OpenSpec.ofChange fnExactLowTermsWrong)

/- THE SECOND FORM. 'bulk': how many values and letters a reading holds, each counted each time it is reached (what is shared counts as often as it is met; a slice's spare places count too). A statement '..UptoSaid' is the law's where the arguments, and the package variables that the reading takes, are together of bulk at most 1048576: NARROWER than '..Said'. Prove '..Said' where nothing that the law and all that it calls make is longer than what came in: it says more and counts as full. Else prove '..UptoSaid'. A law counts once. -/
mutual
def uptoBulk {H : Type} : DataW H → Nat
  | .lit (.string bytes) => bytes.length + 1
  | .lit _ => 1
  | .nil => 1
  | .ptr d => uptoBulk d + 1
  | .slice elems spare => uptoBulkAll elems + uptoBulkAll spare + 1
  | .agg parts => uptoBulkAll parts + 1
  | .iface _ d => uptoBulk d + 1
  | .map entries => uptoBulkEntries entries + 1
  | .held _ => 1
def uptoBulkAll {H : Type} : List (DataW H) → Nat
  | [] => 0
  | d :: r => uptoBulk d + uptoBulkAll r
def uptoBulkEntries {H : Type} : List (Lit × DataW H) → Nat
  | [] => 0
  | x :: r => uptoBulkEntry x + uptoBulkEntries r
def uptoBulkEntry {H : Type} : Lit × DataW H → Nat
  | (.string bytes, d) => bytes.length + uptoBulk d + 1
  | (_, d) => uptoBulk d + 1
 end
def uptoSmall : (H : Type) → List (DataW H) → Bool := fun _ ds => decide (uptoBulkAll ds ≤ 1048576)
def OpenSpec.upto (s : _root_.Go.ChangeSpec) : _root_.Go.OpenSpec := { _root_.Go.OpenSpec.ofChange s with cond := some uptoSmall }

/-- 'laws.FnExactExponentsOf', WHERE WHAT IT READS IS OF BULK AT MOST 1048576: true; the input reads as it did. -/
def fnExactExponentsOfUptoRow : OpenClaim := { program := "ythafciggchdmpaa", sum := "ad1e1056a0b5c0c130ebcda814bac0a9fbcc7e0ab092e01b97b0ce17fcd1faef", func := "loop.example/g01293/laws.FnExactExponentsOf", spec := "fnExactExponentsOf", apart := false, narrowed := true }
def FnExactExponentsOfUptoSaid : Prop := fnExactExponentsOfUptoRow.holds Try.pinned (OpenSpec.upto fnExactExponentsOfSpec)

/-- 'laws.FnExactNumberOfExponents', WHERE WHAT IT READS IS OF BULK AT MOST 1048576: true; the input reads as it did. -/
def fnExactNumberOfExponentsUptoRow : OpenClaim := { program := "ythafciggchdmpaa", sum := "ad1e1056a0b5c0c130ebcda814bac0a9fbcc7e0ab092e01b97b0ce17fcd1faef", func := "loop.example/g01293/laws.FnExactNumberOfExponents", spec := "fnExactNumberOfExponents", apart := false, narrowed := true }
def FnExactNumberOfExponentsUptoSaid : Prop := fnExactNumberOfExponentsUptoRow.holds Try.pinned (OpenSpec.upto fnExactNumberOfExponentsSpec)

/-- 'laws.FnExactAddMachine', WHERE WHAT IT READS IS OF BULK AT MOST 1048576: true; the input reads as it did. -/
def fnExactAddMachineUptoRow : OpenClaim := { program := "ythafciggchdmpaa", sum := "ad1e1056a0b5c0c130ebcda814bac0a9fbcc7e0ab092e01b97b0ce17fcd1faef", func := "loop.example/g01293/laws.FnExactAddMachine", spec := "fnExactAddMachine", apart := false, narrowed := true }
def FnExactAddMachineUptoSaid : Prop := fnExactAddMachineUptoRow.holds Try.pinned (OpenSpec.upto fnExactAddMachineSpec)

/-- 'laws.FnExactLesserMachine', WHERE WHAT IT READS IS OF BULK AT MOST 1048576: true; the input reads as it did. -/
def fnExactLesserMachineUptoRow : OpenClaim := { program := "ythafciggchdmpaa", sum := "ad1e1056a0b5c0c130ebcda814bac0a9fbcc7e0ab092e01b97b0ce17fcd1faef", func := "loop.example/g01293/laws.FnExactLesserMachine", spec := "fnExactLesserMachine", apart := false, narrowed := true }
def FnExactLesserMachineUptoSaid : Prop := fnExactLesserMachineUptoRow.holds Try.pinned (OpenSpec.upto fnExactLesserMachineSpec)

/-- 'laws.FnExactLowTerms', WHERE WHAT IT READS IS OF BULK AT MOST 1048576: true; the input reads as it did. -/
def fnExactLowTermsUptoRow : OpenClaim := { program := "ythafciggchdmpaa", sum := "ad1e1056a0b5c0c130ebcda814bac0a9fbcc7e0ab092e01b97b0ce17fcd1faef", func := "loop.example/g01293/laws.FnExactLowTerms", spec := "fnExactLowTerms", apart := false, narrowed := true }
def FnExactLowTermsUptoSaid : Prop := fnExactLowTermsUptoRow.holds Try.pinned (OpenSpec.upto fnExactLowTermsSpec)

end Rows
end Go.Proofs.Ythafciggchdmpaa
