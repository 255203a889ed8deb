/-
  No cell of these rows narrows 'for every input' (looked for: loops, veiled, ifaces, maps, wideKeys, modest, calm, conditions, laid).
  DERIVED. THE GIVEN ROWS OF THIS SEAT. 6 by the template 'for every input the law returns true; each argument reads behind the call as it read before'; 0 by the template 'total and deterministic' (their statements: YtdghjbaacbalhaaTotals.lean).
  GIVEN WITH THE SEED: the statements are not yours to turn. If you find one false, say at which input.
  Laid BY PROGRAM, IN A SANDBOX (cutbox-rows.mjs): the forced cells as the released guide's own fill.sh prints them over the translation 3c5833715de8e01d… (all of the seat's roots in one cut). By AI agents, Wed Nov 11 2026. No macro, syntax, notation, axiom, sorry.
-/
import Derived.Test.YtdghjbaacbalhaaChecked
import GoSem.Claim
import GoSem.ClaimJoined
import GoSem.ClaimMapViews
import Derived.JoinedTies
import Derived.KernelRfl
namespace Go.Proofs.Ytdghjbaacbalhaa
/- THE CELL 'sum', in the pinned program and in every row, IS THE sha256 OF THE DUMP (.gsa) THAT YtdghjbaacbalhaaProg.lean LOADS. Nothing in Lean hashes anything: it is a label: what it is worth is what the hold of that sum in a sandbox is worth. -/
noncomputable def Try.pinned : Pinned := { name := "ytdghjbaacbalhaa", sum := "3c5833715de8e01d2487e28d346cfedc7d357b0bc97120b72a08910de586bdab", checked := Try.checked }
namespace Rows
def none {H : Type} : Left H := { results := [], args := [] }

/-- 'laws.FnExactPathOf': WHATEVER THE INPUT: true; the input reads as it did. -/
def fnExactPathOfSpec : ChangeSpec := { name := "fnExactPathOf", fn := fun _ => fun
  | [d1, d2, d3] => { results := [.lit (.bool true)], args := [d1, d2, d3] }
  | _ => none }
def fnExactPathOfRow : OpenClaim := { program := "ytdghjbaacbalhaa", sum := "3c5833715de8e01d2487e28d346cfedc7d357b0bc97120b72a08910de586bdab", func := "loop.example/g01293/laws.FnExactPathOf", spec := "fnExactPathOf", unfollowed := true, recurses := true, apart := false }
def FnExactPathOfSaid : Prop := fnExactPathOfRow.holds Try.pinned (OpenSpec.ofChange fnExactPathOfSpec)

/-- ITS FALSE NEIGHBOUR: 'it returns false'. Refute it at one input. -/
def fnExactPathOfWrong : ChangeSpec := { name := "fnExactPathOf", fn := fun _ => fun
  | [d1, d2, d3] => { results := [.lit (.bool false)], args := [d1, d2, d3] }
  | _ => none }
def FnExactPathOfWrongFalsely : Prop := fnExactPathOfRow.holds Try.pinned (OpenSpec.ofChange fnExactPathOfWrong)

/-- 'laws.FnExactPeakOf': WHATEVER THE INPUT: true; the input reads as it did. -/
def fnExactPeakOfSpec : ChangeSpec := { name := "fnExactPeakOf", fn := fun _ => fun
  | [d1, d2, d3] => { results := [.lit (.bool true)], args := [d1, d2, d3] }
  | _ => none }
def fnExactPeakOfRow : OpenClaim := { program := "ytdghjbaacbalhaa", sum := "3c5833715de8e01d2487e28d346cfedc7d357b0bc97120b72a08910de586bdab", func := "loop.example/g01293/laws.FnExactPeakOf", spec := "fnExactPeakOf", unfollowed := true, recurses := true, apart := false }
def FnExactPeakOfSaid : Prop := fnExactPeakOfRow.holds Try.pinned (OpenSpec.ofChange fnExactPeakOfSpec)

/-- ITS FALSE NEIGHBOUR: 'it returns false'. Refute it at one input. -/
def fnExactPeakOfWrong : ChangeSpec := { name := "fnExactPeakOf", fn := fun _ => fun
  | [d1, d2, d3] => { results := [.lit (.bool false)], args := [d1, d2, d3] }
  | _ => none }
def FnExactPeakOfWrongFalsely : Prop := fnExactPeakOfRow.holds Try.pinned (OpenSpec.ofChange fnExactPeakOfWrong)

/-- 'laws.FnExactLowOf': WHATEVER THE INPUT: true; the input reads as it did. -/
def fnExactLowOfSpec : ChangeSpec := { name := "fnExactLowOf", fn := fun _ => fun
  | [d1, d2, d3] => { results := [.lit (.bool true)], args := [d1, d2, d3] }
  | _ => none }
def fnExactLowOfRow : OpenClaim := { program := "ytdghjbaacbalhaa", sum := "3c5833715de8e01d2487e28d346cfedc7d357b0bc97120b72a08910de586bdab", func := "loop.example/g01293/laws.FnExactLowOf", spec := "fnExactLowOf", unfollowed := true, recurses := true, apart := false }
def FnExactLowOfSaid : Prop := fnExactLowOfRow.holds Try.pinned (OpenSpec.ofChange fnExactLowOfSpec)

/-- ITS FALSE NEIGHBOUR: 'it returns false'. Refute it at one input. -/
def fnExactLowOfWrong : ChangeSpec := { name := "fnExactLowOf", fn := fun _ => fun
  | [d1, d2, d3] => { results := [.lit (.bool false)], args := [d1, d2, d3] }
  | _ => none }
def FnExactLowOfWrongFalsely : Prop := fnExactLowOfRow.holds Try.pinned (OpenSpec.ofChange fnExactLowOfWrong)

/-- 'laws.FnExactOddSteps': WHATEVER THE INPUT: true; the input reads as it did. -/
def fnExactOddStepsSpec : ChangeSpec := { name := "fnExactOddSteps", fn := fun _ => fun
  | [d1, d2, d3] => { results := [.lit (.bool true)], args := [d1, d2, d3] }
  | _ => none }
def fnExactOddStepsRow : OpenClaim := { program := "ytdghjbaacbalhaa", sum := "3c5833715de8e01d2487e28d346cfedc7d357b0bc97120b72a08910de586bdab", func := "loop.example/g01293/laws.FnExactOddSteps", spec := "fnExactOddSteps", inPlace := ["internal/bytealg.CountString", "internal/bytealg.IndexByteString", "internal/bytealg.IndexString"], unfollowed := true, recurses := true, named := ["internal/bytealg.MaxLen"], apart := false }
def FnExactOddStepsSaid : Prop := fnExactOddStepsRow.holds Try.pinned (OpenSpec.ofChange fnExactOddStepsSpec)

/-- ITS FALSE NEIGHBOUR: 'it returns false'. Refute it at one input. -/
def fnExactOddStepsWrong : ChangeSpec := { name := "fnExactOddSteps", fn := fun _ => fun
  | [d1, d2, d3] => { results := [.lit (.bool false)], args := [d1, d2, d3] }
  | _ => none }
def FnExactOddStepsWrongFalsely : Prop := fnExactOddStepsRow.holds Try.pinned (OpenSpec.ofChange fnExactOddStepsWrong)

/-- 'laws.FnExactSignsOf': WHATEVER THE INPUT: true; the input reads as it did. -/
def fnExactSignsOfSpec : ChangeSpec := { name := "fnExactSignsOf", fn := fun _ => fun
  | [d1, d2, d3] => { results := [.lit (.bool true)], args := [d1, d2, d3] }
  | _ => none }
def fnExactSignsOfRow : OpenClaim := { program := "ytdghjbaacbalhaa", sum := "3c5833715de8e01d2487e28d346cfedc7d357b0bc97120b72a08910de586bdab", func := "loop.example/g01293/laws.FnExactSignsOf", spec := "fnExactSignsOf", unfollowed := true, recurses := true, apart := false }
def FnExactSignsOfSaid : Prop := fnExactSignsOfRow.holds Try.pinned (OpenSpec.ofChange fnExactSignsOfSpec)

/-- ITS FALSE NEIGHBOUR: 'it returns false'. Refute it at one input. -/
def fnExactSignsOfWrong : ChangeSpec := { name := "fnExactSignsOf", fn := fun _ => fun
  | [d1, d2, d3] => { results := [.lit (.bool false)], args := [d1, d2, d3] }
  | _ => none }
def FnExactSignsOfWrongFalsely : Prop := fnExactSignsOfRow.holds Try.pinned (OpenSpec.ofChange fnExactSignsOfWrong)

/-- 'laws.FnExactSumOfPath': WHATEVER THE INPUT: true; the input reads as it did. -/
def fnExactSumOfPathSpec : ChangeSpec := { name := "fnExactSumOfPath", fn := fun _ => fun
  | [d1, d2, d3] => { results := [.lit (.bool true)], args := [d1, d2, d3] }
  | _ => none }
def fnExactSumOfPathRow : OpenClaim := { program := "ytdghjbaacbalhaa", sum := "3c5833715de8e01d2487e28d346cfedc7d357b0bc97120b72a08910de586bdab", func := "loop.example/g01293/laws.FnExactSumOfPath", spec := "fnExactSumOfPath", unfollowed := true, recurses := true, apart := false }
def FnExactSumOfPathSaid : Prop := fnExactSumOfPathRow.holds Try.pinned (OpenSpec.ofChange fnExactSumOfPathSpec)

/-- ITS FALSE NEIGHBOUR: 'it returns false'. Refute it at one input. -/
def fnExactSumOfPathWrong : ChangeSpec := { name := "fnExactSumOfPath", fn := fun _ => fun
  | [d1, d2, d3] => { results := [.lit (.bool false)], args := [d1, d2, d3] }
  | _ => none }
def FnExactSumOfPathWrongFalsely : Prop := fnExactSumOfPathRow.holds Try.pinned (OpenSpec.ofChange fnExactSumOfPathWrong)

/- THE SECOND FORM. 'bulk': how many values and letters a reading holds, each counted each time it is reached (what is shared counts as often as it is met; a slice's spare places count too). A statement '..UptoSaid' is the law's where the arguments, and the package variables that the reading takes, are together of bulk at most 1048576: NARROWER than '..Said'. Prove '..Said' where nothing that the law and all that it calls make is longer than what came in: it says more and counts as full. Else prove '..UptoSaid'. A law counts once. -/
mutual
def uptoBulk {H : Type} : DataW H → Nat
  | .lit (.string bytes) => bytes.length + 1
  | .lit _ => 1
  | .nil => 1
  | .ptr d => uptoBulk d + 1
  | .slice elems spare => uptoBulkAll elems + uptoBulkAll spare + 1
  | .agg parts => uptoBulkAll parts + 1
  | .iface _ d => uptoBulk d + 1
  | .map entries => uptoBulkEntries entries + 1
  | .held _ => 1
def uptoBulkAll {H : Type} : List (DataW H) → Nat
  | [] => 0
  | d :: r => uptoBulk d + uptoBulkAll r
def uptoBulkEntries {H : Type} : List (Lit × DataW H) → Nat
  | [] => 0
  | x :: r => uptoBulkEntry x + uptoBulkEntries r
def uptoBulkEntry {H : Type} : Lit × DataW H → Nat
  | (.string bytes, d) => bytes.length + uptoBulk d + 1
  | (_, d) => uptoBulk d + 1
 end
def uptoSmall : (H : Type) → List (DataW H) → Bool := fun _ ds => decide (uptoBulkAll ds ≤ 1048576)
def OpenSpec.upto (s : _root_.Go.ChangeSpec) : _root_.Go.OpenSpec := { _root_.Go.OpenSpec.ofChange s with cond := some uptoSmall }

/-- 'laws.FnExactPathOf', WHERE WHAT IT READS IS OF BULK AT MOST 1048576: true; the input reads as it did. -/
def fnExactPathOfUptoRow : OpenClaim := { program := "ytdghjbaacbalhaa", sum := "3c5833715de8e01d2487e28d346cfedc7d357b0bc97120b72a08910de586bdab", func := "loop.example/g01293/laws.FnExactPathOf", spec := "fnExactPathOf", unfollowed := true, recurses := true, apart := false, narrowed := true }
def FnExactPathOfUptoSaid : Prop := fnExactPathOfUptoRow.holds Try.pinned (OpenSpec.upto fnExactPathOfSpec)

/-- 'laws.FnExactPeakOf', WHERE WHAT IT READS IS OF BULK AT MOST 1048576: true; the input reads as it did. -/
def fnExactPeakOfUptoRow : OpenClaim := { program := "ytdghjbaacbalhaa", sum := "3c5833715de8e01d2487e28d346cfedc7d357b0bc97120b72a08910de586bdab", func := "loop.example/g01293/laws.FnExactPeakOf", spec := "fnExactPeakOf", unfollowed := true, recurses := true, apart := false, narrowed := true }
def FnExactPeakOfUptoSaid : Prop := fnExactPeakOfUptoRow.holds Try.pinned (OpenSpec.upto fnExactPeakOfSpec)

/-- 'laws.FnExactLowOf', WHERE WHAT IT READS IS OF BULK AT MOST 1048576: true; the input reads as it did. -/
def fnExactLowOfUptoRow : OpenClaim := { program := "ytdghjbaacbalhaa", sum := "3c5833715de8e01d2487e28d346cfedc7d357b0bc97120b72a08910de586bdab", func := "loop.example/g01293/laws.FnExactLowOf", spec := "fnExactLowOf", unfollowed := true, recurses := true, apart := false, narrowed := true }
def FnExactLowOfUptoSaid : Prop := fnExactLowOfUptoRow.holds Try.pinned (OpenSpec.upto fnExactLowOfSpec)

/-- 'laws.FnExactOddSteps', WHERE WHAT IT READS IS OF BULK AT MOST 1048576: true; the input reads as it did. -/
def fnExactOddStepsUptoRow : OpenClaim := { program := "ytdghjbaacbalhaa", sum := "3c5833715de8e01d2487e28d346cfedc7d357b0bc97120b72a08910de586bdab", func := "loop.example/g01293/laws.FnExactOddSteps", spec := "fnExactOddSteps", inPlace := ["internal/bytealg.CountString", "internal/bytealg.IndexByteString", "internal/bytealg.IndexString"], unfollowed := true, recurses := true, named := ["internal/bytealg.MaxLen"], apart := false, narrowed := true }
def FnExactOddStepsUptoSaid : Prop := fnExactOddStepsUptoRow.holds Try.pinned (OpenSpec.upto fnExactOddStepsSpec)

/-- 'laws.FnExactSignsOf', WHERE WHAT IT READS IS OF BULK AT MOST 1048576: true; the input reads as it did. -/
def fnExactSignsOfUptoRow : OpenClaim := { program := "ytdghjbaacbalhaa", sum := "3c5833715de8e01d2487e28d346cfedc7d357b0bc97120b72a08910de586bdab", func := "loop.example/g01293/laws.FnExactSignsOf", spec := "fnExactSignsOf", unfollowed := true, recurses := true, apart := false, narrowed := true }
def FnExactSignsOfUptoSaid : Prop := fnExactSignsOfUptoRow.holds Try.pinned (OpenSpec.upto fnExactSignsOfSpec)

/-- 'laws.FnExactSumOfPath', WHERE WHAT IT READS IS OF BULK AT MOST 1048576: true; the input reads as it did. -/
def fnExactSumOfPathUptoRow : OpenClaim := { program := "ytdghjbaacbalhaa", sum := "3c5833715de8e01d2487e28d346cfedc7d357b0bc97120b72a08910de586bdab", func := "loop.example/g01293/laws.FnExactSumOfPath", spec := "fnExactSumOfPath", unfollowed := true, recurses := true, apart := false, narrowed := true }
def FnExactSumOfPathUptoSaid : Prop := fnExactSumOfPathUptoRow.holds Try.pinned (OpenSpec.upto fnExactSumOfPathSpec)

end Rows
end Go.Proofs.Ytdghjbaacbalhaa
