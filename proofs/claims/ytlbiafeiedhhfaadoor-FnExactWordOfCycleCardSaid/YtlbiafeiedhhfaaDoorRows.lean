/-
  NARROWER THAN 'FOR EVERY INPUT', by the rows' own cells (each row's printed sentence says how): FnExactWordOfCycle: laid.
  DERIVED. THE GIVEN ROWS OF THIS SEAT. 1 by the template 'for every input the law returns true; each argument reads behind the call as it read before'; 0 by the template 'total and deterministic' (their statements: YtlbiafeiedhhfaaDoorTotals.lean).
  GIVEN WITH THE SEED: the statements are not yours to turn. If you find one false, say at which input.
  Laid BY PROGRAM, IN A SANDBOX (cutbox-rows.mjs): the forced cells as the released guide's own fill.sh prints them over the translation 5f184877ef2183b1… (all of the seat's roots in one cut). By AI agents, Wed Nov 11 2026. No macro, syntax, notation, axiom, sorry.
-/
import Derived.Test.YtlbiafeiedhhfaaDoorChecked
import GoSem.Claim
import GoSem.ClaimJoined
import GoSem.ClaimMapViews
import Derived.JoinedTies
import Derived.KernelRfl
namespace Go.Proofs.YtlbiafeiedhhfaaDoor
/- THE CELL 'sum', in the pinned program and in every row, IS THE sha256 OF THE DUMP (.gsa) THAT YtlbiafeiedhhfaaDoorProg.lean LOADS. Nothing in Lean hashes anything: it is a label: what it is worth is what the hold of that sum in a sandbox is worth. -/
noncomputable def Tryd.pinned : Pinned := { name := "ytlbiafeiedhhfaadoor", sum := "5f184877ef2183b1bac5d92078c8ce3a35ee91963d7bb745e7c77f6752c32cd4", checked := Tryd.checked }
namespace Rows
def none {H : Type} : Left H := { results := [], args := [] }

/- WHAT THE LISTED PACKAGE-LEVEL VARIABLES READ AS WHEN THE CALL BEGINS. Each datum BY PROGRAM (the guide's laid-datum.mjs) off the statement by which the dump's own 'gosem.cut.vars' lays the variable. In a bare row this is a premise. The card (YtlbiafeiedhhfaaDoorCards.lean) ties it to the program's text. -/
def laid_loop_example_g01293_impl_powersOfTwo {H : Type} : DataW H := .agg [.lit (.int .i64 1), .lit (.int .i64 2), .lit (.int .i64 4), .lit (.int .i64 8), .lit (.int .i64 16), .lit (.int .i64 32), .lit (.int .i64 64), .lit (.int .i64 128), .lit (.int .i64 256), .lit (.int .i64 512), .lit (.int .i64 1024), .lit (.int .i64 2048), .lit (.int .i64 4096), .lit (.int .i64 8192), .lit (.int .i64 16384), .lit (.int .i64 32768)]

/-- 'laws.FnExactWordOfCycle': WHATEVER THE INPUT: true; the input reads as it did. -/
def fnExactWordOfCycleSpec : ChangeSpec := { name := "fnExactWordOfCycle", vars := ["loop.example/g01293/impl.powersOfTwo"], fn := fun _ => fun
  | [d1, d2, g1] => { results := [.lit (.bool true)], args := [d1, d2], vars := [g1] }
  | _ => none }
def fnExactWordOfCycleRow : OpenClaim := { program := "ytlbiafeiedhhfaadoor", sum := "5f184877ef2183b1bac5d92078c8ce3a35ee91963d7bb745e7c77f6752c32cd4", func := "loop.example/g01293/laws.FnExactWordOfCycle", spec := "fnExactWordOfCycle", unfollowed := true, recurses := true, named := ["loop.example/g01293/impl.powersOfTwo"], apart := false, laid := [("loop.example/g01293/impl.powersOfTwo", laid_loop_example_g01293_impl_powersOfTwo)] }
def FnExactWordOfCycleSaid : Prop := fnExactWordOfCycleRow.holds Tryd.pinned (OpenSpec.ofChange fnExactWordOfCycleSpec)

/-- ITS FALSE NEIGHBOUR: 'it returns false'. Refute it at one input. -/
def fnExactWordOfCycleWrong : ChangeSpec := { name := "fnExactWordOfCycle", vars := ["loop.example/g01293/impl.powersOfTwo"], fn := fun _ => fun
  | [d1, d2, g1] => { results := [.lit (.bool false)], args := [d1, d2], vars := [g1] }
  | _ => none }
def FnExactWordOfCycleWrongFalsely : Prop := fnExactWordOfCycleRow.holds Tryd.pinned (OpenSpec.ofChange fnExactWordOfCycleWrong)

/- THE SECOND FORM. 'bulk': how many values and letters a reading holds, each counted each time it is reached (what is shared counts as often as it is met; a slice's spare places count too). A statement '..UptoSaid' is the law's where the arguments, and the package variables that the reading takes, are together of bulk at most 1048576: NARROWER than '..Said'. Prove '..Said' where nothing that the law and all that it calls make is longer than what came in: it says more and counts as full. Else prove '..UptoSaid'. A law counts once. -/
mutual
def uptoBulk {H : Type} : DataW H → Nat
  | .lit (.string bytes) => bytes.length + 1
  | .lit _ => 1
  | .nil => 1
  | .ptr d => uptoBulk d + 1
  | .slice elems spare => uptoBulkAll elems + uptoBulkAll spare + 1
  | .agg parts => uptoBulkAll parts + 1
  | .iface _ d => uptoBulk d + 1
  | .map entries => uptoBulkEntries entries + 1
  | .held _ => 1
def uptoBulkAll {H : Type} : List (DataW H) → Nat
  | [] => 0
  | d :: r => uptoBulk d + uptoBulkAll r
def uptoBulkEntries {H : Type} : List (Lit × DataW H) → Nat
  | [] => 0
  | x :: r => uptoBulkEntry x + uptoBulkEntries r
def uptoBulkEntry {H : Type} : Lit × DataW H → Nat
  | (.string bytes, d) => bytes.length + uptoBulk d + 1
  | (_, d) => uptoBulk d + 1
 end
def uptoSmall : (H : Type) → List (DataW H) → Bool := fun _ ds => decide (uptoBulkAll ds ≤ 1048576)
def OpenSpec.upto (s : _root_.Go.ChangeSpec) : _root_.Go.OpenSpec := { _root_.Go.OpenSpec.ofChange s with cond := some uptoSmall }

/-- 'laws.FnExactWordOfCycle', WHERE WHAT IT READS IS OF BULK AT MOST 1048576: true; the input reads as it did. -/
def fnExactWordOfCycleUptoRow : OpenClaim := { program := "ytlbiafeiedhhfaadoor", sum := "5f184877ef2183b1bac5d92078c8ce3a35ee91963d7bb745e7c77f6752c32cd4", func := "loop.example/g01293/laws.FnExactWordOfCycle", spec := "fnExactWordOfCycle", unfollowed := true, recurses := true, named := ["loop.example/g01293/impl.powersOfTwo"], apart := false, laid := [("loop.example/g01293/impl.powersOfTwo", laid_loop_example_g01293_impl_powersOfTwo)], narrowed := true }
def FnExactWordOfCycleUptoSaid : Prop := fnExactWordOfCycleUptoRow.holds Tryd.pinned (OpenSpec.upto fnExactWordOfCycleSpec)

end Rows
end Go.Proofs.YtlbiafeiedhhfaaDoor
