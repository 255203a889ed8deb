/-
  NARROWER THAN 'FOR EVERY INPUT', by the rows' own cells (each row's printed sentence says how): FnExactCycleWords: laid · FnExactCountCycleWords: laid · FnExactCountPrimitive: laid.
  DERIVED. THE GIVEN ROWS OF THIS SEAT. 3 by the template 'for every input the law returns true; each argument reads behind the call as it read before'; 0 by the template 'total and deterministic' (their statements: YtbepnhgekbcbjaaDoorTotals.lean).
  GIVEN WITH THE SEED: the statements are not yours to turn. If you find one false, say at which input.
  Laid BY PROGRAM, IN A SANDBOX (cutbox-rows.mjs): the forced cells as the released guide's own fill.sh prints them over the translation 7e54e4e33198cf28… (all of the seat's roots in one cut). By AI agents, Wed Nov 11 2026. No macro, syntax, notation, axiom, sorry.
-/
import Derived.Test.YtbepnhgekbcbjaaDoorChecked
import GoSem.Claim
import GoSem.ClaimJoined
import GoSem.ClaimMapViews
import Derived.JoinedTies
import Derived.KernelRfl
namespace Go.Proofs.YtbepnhgekbcbjaaDoor
/- THE CELL 'sum', in the pinned program and in every row, IS THE sha256 OF THE DUMP (.gsa) THAT YtbepnhgekbcbjaaDoorProg.lean LOADS. Nothing in Lean hashes anything: it is a label: what it is worth is what the hold of that sum in a sandbox is worth. -/
noncomputable def Tryd.pinned : Pinned := { name := "ytbepnhgekbcbjaadoor", sum := "7e54e4e33198cf288e211c059caaa0045cd4685d897005d1fd16ed000f3276d9", checked := Tryd.checked }
namespace Rows
def none {H : Type} : Left H := { results := [], args := [] }

/- WHAT THE LISTED PACKAGE-LEVEL VARIABLES READ AS WHEN THE CALL BEGINS. Each datum BY PROGRAM (the guide's laid-datum.mjs) off the statement by which the dump's own 'gosem.cut.vars' lays the variable. In a bare row this is a premise. The card (YtbepnhgekbcbjaaDoorCards.lean) ties it to the program's text. -/
def laid_loop_example_g01293_impl_powersOfTwo {H : Type} : DataW H := .agg [.lit (.int .i64 1), .lit (.int .i64 2), .lit (.int .i64 4), .lit (.int .i64 8), .lit (.int .i64 16), .lit (.int .i64 32), .lit (.int .i64 64), .lit (.int .i64 128), .lit (.int .i64 256), .lit (.int .i64 512), .lit (.int .i64 1024), .lit (.int .i64 2048), .lit (.int .i64 4096), .lit (.int .i64 8192), .lit (.int .i64 16384), .lit (.int .i64 32768)]

/-- 'laws.FnExactCycleWords': WHATEVER THE INPUT: true; the input reads as it did. -/
def fnExactCycleWordsSpec : ChangeSpec := { name := "fnExactCycleWords", vars := ["loop.example/g01293/impl.powersOfTwo"], fn := fun _ => fun
  | [d1, d2, g1] => { results := [.lit (.bool true)], args := [d1, d2], vars := [g1] }
  | _ => none }
def fnExactCycleWordsRow : OpenClaim := { program := "ytbepnhgekbcbjaadoor", sum := "7e54e4e33198cf288e211c059caaa0045cd4685d897005d1fd16ed000f3276d9", func := "loop.example/g01293/laws.FnExactCycleWords", spec := "fnExactCycleWords", inPlace := ["internal/bytealg.IndexByteString", "internal/bytealg.IndexString"], named := ["loop.example/g01293/impl.powersOfTwo", "internal/bytealg.MaxLen"], apart := false, laid := [("loop.example/g01293/impl.powersOfTwo", laid_loop_example_g01293_impl_powersOfTwo)] }
def FnExactCycleWordsSaid : Prop := fnExactCycleWordsRow.holds Tryd.pinned (OpenSpec.ofChange fnExactCycleWordsSpec)

/-- ITS FALSE NEIGHBOUR: 'it returns false'. Refute it at one input. -/
def fnExactCycleWordsWrong : ChangeSpec := { name := "fnExactCycleWords", vars := ["loop.example/g01293/impl.powersOfTwo"], fn := fun _ => fun
  | [d1, d2, g1] => { results := [.lit (.bool false)], args := [d1, d2], vars := [g1] }
  | _ => none }
def FnExactCycleWordsWrongFalsely : Prop := fnExactCycleWordsRow.holds Tryd.pinned (OpenSpec.ofChange fnExactCycleWordsWrong)

/-- 'laws.FnExactCountCycleWords': WHATEVER THE INPUT: true; the input reads as it did. -/
def fnExactCountCycleWordsSpec : ChangeSpec := { name := "fnExactCountCycleWords", vars := ["loop.example/g01293/impl.powersOfTwo"], fn := fun _ => fun
  | [d1, d2, g1] => { results := [.lit (.bool true)], args := [d1, d2], vars := [g1] }
  | _ => none }
def fnExactCountCycleWordsRow : OpenClaim := { program := "ytbepnhgekbcbjaadoor", sum := "7e54e4e33198cf288e211c059caaa0045cd4685d897005d1fd16ed000f3276d9", func := "loop.example/g01293/laws.FnExactCountCycleWords", spec := "fnExactCountCycleWords", inPlace := ["internal/bytealg.IndexByteString", "internal/bytealg.IndexString"], named := ["loop.example/g01293/impl.powersOfTwo", "internal/bytealg.MaxLen"], apart := false, laid := [("loop.example/g01293/impl.powersOfTwo", laid_loop_example_g01293_impl_powersOfTwo)] }
def FnExactCountCycleWordsSaid : Prop := fnExactCountCycleWordsRow.holds Tryd.pinned (OpenSpec.ofChange fnExactCountCycleWordsSpec)

/-- ITS FALSE NEIGHBOUR: 'it returns false'. Refute it at one input. -/
def fnExactCountCycleWordsWrong : ChangeSpec := { name := "fnExactCountCycleWords", vars := ["loop.example/g01293/impl.powersOfTwo"], fn := fun _ => fun
  | [d1, d2, g1] => { results := [.lit (.bool false)], args := [d1, d2], vars := [g1] }
  | _ => none }
def FnExactCountCycleWordsWrongFalsely : Prop := fnExactCountCycleWordsRow.holds Tryd.pinned (OpenSpec.ofChange fnExactCountCycleWordsWrong)

/-- 'laws.FnExactCountPrimitive': WHATEVER THE INPUT: true; the input reads as it did. -/
def fnExactCountPrimitiveSpec : ChangeSpec := { name := "fnExactCountPrimitive", vars := ["loop.example/g01293/impl.powersOfTwo"], fn := fun _ => fun
  | [d1, d2, g1] => { results := [.lit (.bool true)], args := [d1, d2], vars := [g1] }
  | _ => none }
def fnExactCountPrimitiveRow : OpenClaim := { program := "ytbepnhgekbcbjaadoor", sum := "7e54e4e33198cf288e211c059caaa0045cd4685d897005d1fd16ed000f3276d9", func := "loop.example/g01293/laws.FnExactCountPrimitive", spec := "fnExactCountPrimitive", inPlace := ["internal/bytealg.IndexByteString", "internal/bytealg.IndexString", "internal/bytealg.CountString"], named := ["loop.example/g01293/impl.powersOfTwo", "internal/bytealg.MaxLen"], apart := false, laid := [("loop.example/g01293/impl.powersOfTwo", laid_loop_example_g01293_impl_powersOfTwo)] }
def FnExactCountPrimitiveSaid : Prop := fnExactCountPrimitiveRow.holds Tryd.pinned (OpenSpec.ofChange fnExactCountPrimitiveSpec)

/-- ITS FALSE NEIGHBOUR: 'it returns false'. Refute it at one input. -/
def fnExactCountPrimitiveWrong : ChangeSpec := { name := "fnExactCountPrimitive", vars := ["loop.example/g01293/impl.powersOfTwo"], fn := fun _ => fun
  | [d1, d2, g1] => { results := [.lit (.bool false)], args := [d1, d2], vars := [g1] }
  | _ => none }
def FnExactCountPrimitiveWrongFalsely : Prop := fnExactCountPrimitiveRow.holds Tryd.pinned (OpenSpec.ofChange fnExactCountPrimitiveWrong)

/- THE SECOND FORM. 'bulk': how many values and letters a reading holds, each counted each time it is reached (what is shared counts as often as it is met; a slice's spare places count too). A statement '..UptoSaid' is the law's where the arguments, and the package variables that the reading takes, are together of bulk at most 1048576: NARROWER than '..Said'. Prove '..Said' where nothing that the law and all that it calls make is longer than what came in: it says more and counts as full. Else prove '..UptoSaid'. A law counts once. -/
mutual
def uptoBulk {H : Type} : DataW H → Nat
  | .lit (.string bytes) => bytes.length + 1
  | .lit _ => 1
  | .nil => 1
  | .ptr d => uptoBulk d + 1
  | .slice elems spare => uptoBulkAll elems + uptoBulkAll spare + 1
  | .agg parts => uptoBulkAll parts + 1
  | .iface _ d => uptoBulk d + 1
  | .map entries => uptoBulkEntries entries + 1
  | .held _ => 1
def uptoBulkAll {H : Type} : List (DataW H) → Nat
  | [] => 0
  | d :: r => uptoBulk d + uptoBulkAll r
def uptoBulkEntries {H : Type} : List (Lit × DataW H) → Nat
  | [] => 0
  | x :: r => uptoBulkEntry x + uptoBulkEntries r
def uptoBulkEntry {H : Type} : Lit × DataW H → Nat
  | (.string bytes, d) => bytes.length + uptoBulk d + 1
  | (_, d) => uptoBulk d + 1
 end
def uptoSmall : (H : Type) → List (DataW H) → Bool := fun _ ds => decide (uptoBulkAll ds ≤ 1048576)
def OpenSpec.upto (s : _root_.Go.ChangeSpec) : _root_.Go.OpenSpec := { _root_.Go.OpenSpec.ofChange s with cond := some uptoSmall }

/-- 'laws.FnExactCycleWords', WHERE WHAT IT READS IS OF BULK AT MOST 1048576: true; the input reads as it did. -/
def fnExactCycleWordsUptoRow : OpenClaim := { program := "ytbepnhgekbcbjaadoor", sum := "7e54e4e33198cf288e211c059caaa0045cd4685d897005d1fd16ed000f3276d9", func := "loop.example/g01293/laws.FnExactCycleWords", spec := "fnExactCycleWords", inPlace := ["internal/bytealg.IndexByteString", "internal/bytealg.IndexString"], named := ["loop.example/g01293/impl.powersOfTwo", "internal/bytealg.MaxLen"], apart := false, laid := [("loop.example/g01293/impl.powersOfTwo", laid_loop_example_g01293_impl_powersOfTwo)], narrowed := true }
def FnExactCycleWordsUptoSaid : Prop := fnExactCycleWordsUptoRow.holds Tryd.pinned (OpenSpec.upto fnExactCycleWordsSpec)

/-- 'laws.FnExactCountCycleWords', WHERE WHAT IT READS IS OF BULK AT MOST 1048576: true; the input reads as it did. -/
def fnExactCountCycleWordsUptoRow : OpenClaim := { program := "ytbepnhgekbcbjaadoor", sum := "7e54e4e33198cf288e211c059caaa0045cd4685d897005d1fd16ed000f3276d9", func := "loop.example/g01293/laws.FnExactCountCycleWords", spec := "fnExactCountCycleWords", inPlace := ["internal/bytealg.IndexByteString", "internal/bytealg.IndexString"], named := ["loop.example/g01293/impl.powersOfTwo", "internal/bytealg.MaxLen"], apart := false, laid := [("loop.example/g01293/impl.powersOfTwo", laid_loop_example_g01293_impl_powersOfTwo)], narrowed := true }
def FnExactCountCycleWordsUptoSaid : Prop := fnExactCountCycleWordsUptoRow.holds Tryd.pinned (OpenSpec.upto fnExactCountCycleWordsSpec)

/-- 'laws.FnExactCountPrimitive', WHERE WHAT IT READS IS OF BULK AT MOST 1048576: true; the input reads as it did. -/
def fnExactCountPrimitiveUptoRow : OpenClaim := { program := "ytbepnhgekbcbjaadoor", sum := "7e54e4e33198cf288e211c059caaa0045cd4685d897005d1fd16ed000f3276d9", func := "loop.example/g01293/laws.FnExactCountPrimitive", spec := "fnExactCountPrimitive", inPlace := ["internal/bytealg.IndexByteString", "internal/bytealg.IndexString", "internal/bytealg.CountString"], named := ["loop.example/g01293/impl.powersOfTwo", "internal/bytealg.MaxLen"], apart := false, laid := [("loop.example/g01293/impl.powersOfTwo", laid_loop_example_g01293_impl_powersOfTwo)], narrowed := true }
def FnExactCountPrimitiveUptoSaid : Prop := fnExactCountPrimitiveUptoRow.holds Tryd.pinned (OpenSpec.upto fnExactCountPrimitiveSpec)

end Rows
end Go.Proofs.YtbepnhgekbcbjaaDoor
