/-
  No cell of these rows narrows 'for every input' (looked for: loops, veiled, ifaces, maps, wideKeys, modest, calm, conditions, laid).
  DERIVED. THE GIVEN ROWS OF THIS SEAT. 5 by the template 'for every input the law returns true; each argument reads behind the call as it read before'; 0 by the template 'total and deterministic' (their statements: YtlbiafeiedhhfaaTotals.lean).
  GIVEN WITH THE SEED: the statements are not yours to turn. If you find one false, say at which input.
  Laid BY PROGRAM, IN A SANDBOX (cutbox-rows.mjs): the forced cells as the released guide's own fill.sh prints them over the translation 1123e6604d9ba2dd… (all of the seat's roots in one cut). By AI agents, Wed Nov 11 2026. No macro, syntax, notation, axiom, sorry.
-/
import Derived.Test.YtlbiafeiedhhfaaChecked
import GoSem.Claim
import GoSem.ClaimJoined
import GoSem.ClaimMapViews
import Derived.JoinedTies
import Derived.KernelRfl
namespace Go.Proofs.Ytlbiafeiedhhfaa
/- THE CELL 'sum', in the pinned program and in every row, IS THE sha256 OF THE DUMP (.gsa) THAT YtlbiafeiedhhfaaProg.lean LOADS. Nothing in Lean hashes anything: it is a label: what it is worth is what the hold of that sum in a sandbox is worth. -/
noncomputable def Try.pinned : Pinned := { name := "ytlbiafeiedhhfaa", sum := "1123e6604d9ba2ddd27023b326a256d2037d02d6e3e6e53da0d7537781f7cb40", checked := Try.checked }
namespace Rows
def none {H : Type} : Left H := { results := [], args := [] }

/-- 'laws.FnExactCycleOf': WHATEVER THE INPUT: true; the input reads as it did. -/
def fnExactCycleOfSpec : ChangeSpec := { name := "fnExactCycleOf", fn := fun _ => fun
  | [d1, d2] => { results := [.lit (.bool true)], args := [d1, d2] }
  | _ => none }
def fnExactCycleOfRow : OpenClaim := { program := "ytlbiafeiedhhfaa", sum := "1123e6604d9ba2ddd27023b326a256d2037d02d6e3e6e53da0d7537781f7cb40", func := "loop.example/g01293/laws.FnExactCycleOf", spec := "fnExactCycleOf", unfollowed := true, recurses := true, apart := false }
def FnExactCycleOfSaid : Prop := fnExactCycleOfRow.holds Try.pinned (OpenSpec.ofChange fnExactCycleOfSpec)

/-- ITS FALSE NEIGHBOUR: 'it returns false'. Refute it at one input. -/
def fnExactCycleOfWrong : ChangeSpec := { name := "fnExactCycleOf", fn := fun _ => fun
  | [d1, d2] => { results := [.lit (.bool false)], args := [d1, d2] }
  | _ => none }
def FnExactCycleOfWrongFalsely : Prop := fnExactCycleOfRow.holds Try.pinned (OpenSpec.ofChange fnExactCycleOfWrong)

/-- 'laws.FnExactLeadOf': WHATEVER THE INPUT: true; the input reads as it did. -/
def fnExactLeadOfSpec : ChangeSpec := { name := "fnExactLeadOf", fn := fun _ => fun
  | [d1, d2] => { results := [.lit (.bool true)], args := [d1, d2] }
  | _ => none }
def fnExactLeadOfRow : OpenClaim := { program := "ytlbiafeiedhhfaa", sum := "1123e6604d9ba2ddd27023b326a256d2037d02d6e3e6e53da0d7537781f7cb40", func := "loop.example/g01293/laws.FnExactLeadOf", spec := "fnExactLeadOf", unfollowed := true, recurses := true, apart := false }
def FnExactLeadOfSaid : Prop := fnExactLeadOfRow.holds Try.pinned (OpenSpec.ofChange fnExactLeadOfSpec)

/-- ITS FALSE NEIGHBOUR: 'it returns false'. Refute it at one input. -/
def fnExactLeadOfWrong : ChangeSpec := { name := "fnExactLeadOf", fn := fun _ => fun
  | [d1, d2] => { results := [.lit (.bool false)], args := [d1, d2] }
  | _ => none }
def FnExactLeadOfWrongFalsely : Prop := fnExactLeadOfRow.holds Try.pinned (OpenSpec.ofChange fnExactLeadOfWrong)

/-- 'laws.FnExactIsOnCycle': WHATEVER THE INPUT: true; the input reads as it did. -/
def fnExactIsOnCycleSpec : ChangeSpec := { name := "fnExactIsOnCycle", fn := fun _ => fun
  | [d1, d2] => { results := [.lit (.bool true)], args := [d1, d2] }
  | _ => none }
def fnExactIsOnCycleRow : OpenClaim := { program := "ytlbiafeiedhhfaa", sum := "1123e6604d9ba2ddd27023b326a256d2037d02d6e3e6e53da0d7537781f7cb40", func := "loop.example/g01293/laws.FnExactIsOnCycle", spec := "fnExactIsOnCycle", unfollowed := true, recurses := true, apart := false }
def FnExactIsOnCycleSaid : Prop := fnExactIsOnCycleRow.holds Try.pinned (OpenSpec.ofChange fnExactIsOnCycleSpec)

/-- ITS FALSE NEIGHBOUR: 'it returns false'. Refute it at one input. -/
def fnExactIsOnCycleWrong : ChangeSpec := { name := "fnExactIsOnCycle", fn := fun _ => fun
  | [d1, d2] => { results := [.lit (.bool false)], args := [d1, d2] }
  | _ => none }
def FnExactIsOnCycleWrongFalsely : Prop := fnExactIsOnCycleRow.holds Try.pinned (OpenSpec.ofChange fnExactIsOnCycleWrong)

/-- 'laws.FnExactCyclesUpTo': WHATEVER THE INPUT: true; the input reads as it did. -/
def fnExactCyclesUpToSpec : ChangeSpec := { name := "fnExactCyclesUpTo", fn := fun _ => fun
  | [d1, d2] => { results := [.lit (.bool true)], args := [d1, d2] }
  | _ => none }
def fnExactCyclesUpToRow : OpenClaim := { program := "ytlbiafeiedhhfaa", sum := "1123e6604d9ba2ddd27023b326a256d2037d02d6e3e6e53da0d7537781f7cb40", func := "loop.example/g01293/laws.FnExactCyclesUpTo", spec := "fnExactCyclesUpTo", unfollowed := true, recurses := true, apart := false }
def FnExactCyclesUpToSaid : Prop := fnExactCyclesUpToRow.holds Try.pinned (OpenSpec.ofChange fnExactCyclesUpToSpec)

/-- ITS FALSE NEIGHBOUR: 'it returns false'. Refute it at one input. -/
def fnExactCyclesUpToWrong : ChangeSpec := { name := "fnExactCyclesUpTo", fn := fun _ => fun
  | [d1, d2] => { results := [.lit (.bool false)], args := [d1, d2] }
  | _ => none }
def FnExactCyclesUpToWrongFalsely : Prop := fnExactCyclesUpToRow.holds Try.pinned (OpenSpec.ofChange fnExactCyclesUpToWrong)

/-- 'laws.FnExactCountLost': WHATEVER THE INPUT: true; the input reads as it did. -/
def fnExactCountLostSpec : ChangeSpec := { name := "fnExactCountLost", fn := fun _ => fun
  | [d1, d2] => { results := [.lit (.bool true)], args := [d1, d2] }
  | _ => none }
def fnExactCountLostRow : OpenClaim := { program := "ytlbiafeiedhhfaa", sum := "1123e6604d9ba2ddd27023b326a256d2037d02d6e3e6e53da0d7537781f7cb40", func := "loop.example/g01293/laws.FnExactCountLost", spec := "fnExactCountLost", apart := false }
def FnExactCountLostSaid : Prop := fnExactCountLostRow.holds Try.pinned (OpenSpec.ofChange fnExactCountLostSpec)

/-- ITS FALSE NEIGHBOUR: 'it returns false'. Refute it at one input. -/
def fnExactCountLostWrong : ChangeSpec := { name := "fnExactCountLost", fn := fun _ => fun
  | [d1, d2] => { results := [.lit (.bool false)], args := [d1, d2] }
  | _ => none }
def FnExactCountLostWrongFalsely : Prop := fnExactCountLostRow.holds Try.pinned (OpenSpec.ofChange fnExactCountLostWrong)

/- THE SECOND FORM. 'bulk': how many values and letters a reading holds, each counted each time it is reached (what is shared counts as often as it is met; a slice's spare places count too). A statement '..UptoSaid' is the law's where the arguments, and the package variables that the reading takes, are together of bulk at most 1048576: NARROWER than '..Said'. Prove '..Said' where nothing that the law and all that it calls make is longer than what came in: it says more and counts as full. Else prove '..UptoSaid'. A law counts once. -/
mutual
def uptoBulk {H : Type} : DataW H → Nat
  | .lit (.string bytes) => bytes.length + 1
  | .lit _ => 1
  | .nil => 1
  | .ptr d => uptoBulk d + 1
  | .slice elems spare => uptoBulkAll elems + uptoBulkAll spare + 1
  | .agg parts => uptoBulkAll parts + 1
  | .iface _ d => uptoBulk d + 1
  | .map entries => uptoBulkEntries entries + 1
  | .held _ => 1
def uptoBulkAll {H : Type} : List (DataW H) → Nat
  | [] => 0
  | d :: r => uptoBulk d + uptoBulkAll r
def uptoBulkEntries {H : Type} : List (Lit × DataW H) → Nat
  | [] => 0
  | x :: r => uptoBulkEntry x + uptoBulkEntries r
def uptoBulkEntry {H : Type} : Lit × DataW H → Nat
  | (.string bytes, d) => bytes.length + uptoBulk d + 1
  | (_, d) => uptoBulk d + 1
 end
def uptoSmall : (H : Type) → List (DataW H) → Bool := fun _ ds => decide (uptoBulkAll ds ≤ 1048576)
def OpenSpec.upto (s : _root_.Go.ChangeSpec) : _root_.Go.OpenSpec := { _root_.Go.OpenSpec.ofChange s with cond := some uptoSmall }

/-- 'laws.FnExactCycleOf', WHERE WHAT IT READS IS OF BULK AT MOST 1048576: true; the input reads as it did. -/
def fnExactCycleOfUptoRow : OpenClaim := { program := "ytlbiafeiedhhfaa", sum := "1123e6604d9ba2ddd27023b326a256d2037d02d6e3e6e53da0d7537781f7cb40", func := "loop.example/g01293/laws.FnExactCycleOf", spec := "fnExactCycleOf", unfollowed := true, recurses := true, apart := false, narrowed := true }
def FnExactCycleOfUptoSaid : Prop := fnExactCycleOfUptoRow.holds Try.pinned (OpenSpec.upto fnExactCycleOfSpec)

/-- 'laws.FnExactLeadOf', WHERE WHAT IT READS IS OF BULK AT MOST 1048576: true; the input reads as it did. -/
def fnExactLeadOfUptoRow : OpenClaim := { program := "ytlbiafeiedhhfaa", sum := "1123e6604d9ba2ddd27023b326a256d2037d02d6e3e6e53da0d7537781f7cb40", func := "loop.example/g01293/laws.FnExactLeadOf", spec := "fnExactLeadOf", unfollowed := true, recurses := true, apart := false, narrowed := true }
def FnExactLeadOfUptoSaid : Prop := fnExactLeadOfUptoRow.holds Try.pinned (OpenSpec.upto fnExactLeadOfSpec)

/-- 'laws.FnExactIsOnCycle', WHERE WHAT IT READS IS OF BULK AT MOST 1048576: true; the input reads as it did. -/
def fnExactIsOnCycleUptoRow : OpenClaim := { program := "ytlbiafeiedhhfaa", sum := "1123e6604d9ba2ddd27023b326a256d2037d02d6e3e6e53da0d7537781f7cb40", func := "loop.example/g01293/laws.FnExactIsOnCycle", spec := "fnExactIsOnCycle", unfollowed := true, recurses := true, apart := false, narrowed := true }
def FnExactIsOnCycleUptoSaid : Prop := fnExactIsOnCycleUptoRow.holds Try.pinned (OpenSpec.upto fnExactIsOnCycleSpec)

/-- 'laws.FnExactCyclesUpTo', WHERE WHAT IT READS IS OF BULK AT MOST 1048576: true; the input reads as it did. -/
def fnExactCyclesUpToUptoRow : OpenClaim := { program := "ytlbiafeiedhhfaa", sum := "1123e6604d9ba2ddd27023b326a256d2037d02d6e3e6e53da0d7537781f7cb40", func := "loop.example/g01293/laws.FnExactCyclesUpTo", spec := "fnExactCyclesUpTo", unfollowed := true, recurses := true, apart := false, narrowed := true }
def FnExactCyclesUpToUptoSaid : Prop := fnExactCyclesUpToUptoRow.holds Try.pinned (OpenSpec.upto fnExactCyclesUpToSpec)

/-- 'laws.FnExactCountLost', WHERE WHAT IT READS IS OF BULK AT MOST 1048576: true; the input reads as it did. -/
def fnExactCountLostUptoRow : OpenClaim := { program := "ytlbiafeiedhhfaa", sum := "1123e6604d9ba2ddd27023b326a256d2037d02d6e3e6e53da0d7537781f7cb40", func := "loop.example/g01293/laws.FnExactCountLost", spec := "fnExactCountLost", apart := false, narrowed := true }
def FnExactCountLostUptoSaid : Prop := fnExactCountLostUptoRow.holds Try.pinned (OpenSpec.upto fnExactCountLostSpec)

end Rows
end Go.Proofs.Ytlbiafeiedhhfaa
