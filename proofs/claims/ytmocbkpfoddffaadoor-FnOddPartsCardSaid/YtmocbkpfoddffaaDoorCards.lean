/-
  DERIVED. GIVEN WITH THE SEED: THE CARDS: each row of YtmocbkpfoddffaaDoorRows.lean that lists a variable, with what it lists TIED to the program's text (the seventh form; the later family's looks); each row that meets fmt, with fmt's text TOLD by the authors' own Lean function (tested against real Go, not proved from fmt's source: count such statements apart). THE CARD IS WHAT COUNTS. Prove the row's statement (the work); the ties are given (YtmocbkpfoddffaaDoorTie.lean); close each card by the builder's one call (the guide's Derived/Test/ToyasCard.lean, 'card_holds'). Laid BY PROGRAM, IN A SANDBOX (cutbox-door.mjs). By AI agents, Wed Nov 11 2026. No macro, syntax, notation, axiom, sorry.
-/
import Derived.Test.YtmocbkpfoddffaaDoorRows
import GoSem.ClaimSeven
namespace Go.Proofs.YtmocbkpfoddffaaDoor
namespace Rows

/-- THE TIED CARD OF 'laws.FnOddParts'. -/
def fnOddPartsCard : Claim7 := { stood := { row := fnOddPartsRow, standIns := [], harness := (true, "4a7305ccce8a21fe1777f030aa28ac0a1674598b550c725295a79f9bef26b43e"), looks := true }, kinds := [], alts := [], laidByText := true, laidKinds := [.data, .data, .data, .sentinel, .sentinel], laidTests := true, laidLooks := .later }
def FnOddPartsCardSaid : Prop := Claim7.holds Tryd.pinned (.plain (OpenSpec.ofChange fnOddPartsSpec)) fnOddPartsCard

/-- THE SECOND FORM's CARD OF 'laws.FnOddParts'. -/
def fnOddPartsUptoCard : Claim7 := { stood := { row := fnOddPartsUptoRow, standIns := [], harness := (true, "4a7305ccce8a21fe1777f030aa28ac0a1674598b550c725295a79f9bef26b43e"), looks := true }, kinds := [], alts := [], laidByText := true, laidKinds := [.data, .data, .data, .sentinel, .sentinel], laidTests := true, laidLooks := .later }
def FnOddPartsUptoCardSaid : Prop := Claim7.holds Tryd.pinned (.plain (OpenSpec.upto fnOddPartsSpec)) fnOddPartsUptoCard
end Rows
end Go.Proofs.YtmocbkpfoddffaaDoor
