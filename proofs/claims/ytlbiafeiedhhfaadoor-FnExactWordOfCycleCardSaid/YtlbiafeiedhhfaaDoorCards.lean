/-
  DERIVED. GIVEN WITH THE SEED: THE CARDS: each row of YtlbiafeiedhhfaaDoorRows.lean that lists a variable, with what it lists TIED to the program's text (the seventh form; the later family's looks); each row that meets fmt, with fmt's text TOLD by the authors' own Lean function (tested against real Go, not proved from fmt's source: count such statements apart). THE CARD IS WHAT COUNTS. Prove the row's statement (the work); the ties are given (YtlbiafeiedhhfaaDoorTie.lean); close each card by the builder's one call (the guide's Derived/Test/ToyasCard.lean, 'card_holds'). Laid BY PROGRAM, IN A SANDBOX (cutbox-door.mjs). By AI agents, Wed Nov 11 2026. No macro, syntax, notation, axiom, sorry.
-/
import Derived.Test.YtlbiafeiedhhfaaDoorRows
import GoSem.ClaimSeven
namespace Go.Proofs.YtlbiafeiedhhfaaDoor
namespace Rows

/-- THE TIED CARD OF 'laws.FnExactWordOfCycle'. -/
def fnExactWordOfCycleCard : Claim7 := { stood := { row := fnExactWordOfCycleRow, standIns := [], harness := (true, "d7cde35720c1a0153f9061630dd73c5c288aaa09d5b0a99f98efe16e458d016d"), looks := false }, kinds := [], alts := [], laidByText := true, laidKinds := [.data], laidTests := true, laidLooks := .later }
def FnExactWordOfCycleCardSaid : Prop := Claim7.holds Tryd.pinned (.plain (OpenSpec.ofChange fnExactWordOfCycleSpec)) fnExactWordOfCycleCard

/-- THE SECOND FORM's CARD OF 'laws.FnExactWordOfCycle'. -/
def fnExactWordOfCycleUptoCard : Claim7 := { stood := { row := fnExactWordOfCycleUptoRow, standIns := [], harness := (true, "d7cde35720c1a0153f9061630dd73c5c288aaa09d5b0a99f98efe16e458d016d"), looks := false }, kinds := [], alts := [], laidByText := true, laidKinds := [.data], laidTests := true, laidLooks := .later }
def FnExactWordOfCycleUptoCardSaid : Prop := Claim7.holds Tryd.pinned (.plain (OpenSpec.upto fnExactWordOfCycleSpec)) fnExactWordOfCycleUptoCard
end Rows
end Go.Proofs.YtlbiafeiedhhfaaDoor
