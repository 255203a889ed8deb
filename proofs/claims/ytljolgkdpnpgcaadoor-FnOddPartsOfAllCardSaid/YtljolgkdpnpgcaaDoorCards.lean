/-
  DERIVED. GIVEN WITH THE SEED: THE CARDS: each row of YtljolgkdpnpgcaaDoorRows.lean that lists a variable, with what it lists TIED to the program's text (the seventh form; the later family's looks); each row that meets fmt, with fmt's text TOLD by the authors' own Lean function (tested against real Go, not proved from fmt's source: count such statements apart). THE CARD IS WHAT COUNTS. Prove the row's statement (the work); the ties are given (YtljolgkdpnpgcaaDoorTie.lean); close each card by the builder's one call (the guide's Derived/Test/ToyasCard.lean, 'card_holds'). Laid BY PROGRAM, IN A SANDBOX (cutbox-door.mjs). By AI agents, Wed Nov 11 2026. No macro, syntax, notation, axiom, sorry.
-/
import Derived.Test.YtljolgkdpnpgcaaDoorRows
import GoSem.ClaimSeven
namespace Go.Proofs.YtljolgkdpnpgcaaDoor
namespace Rows

/-- THE TIED CARD OF 'laws.FnOddPartsOfAll'. -/
def fnOddPartsOfAllCard : Claim7 := { stood := { row := fnOddPartsOfAllRow, standIns := [], harness := (true, "bb07757626bde594e1c5bb7606958dd1e30c1466c160ad9ed5b89e867ca9cca0"), looks := true }, kinds := [], alts := [], laidByText := true, laidKinds := [.data, .data, .data, .sentinel, .sentinel], laidTests := true, laidLooks := .later }
def FnOddPartsOfAllCardSaid : Prop := Claim7.holds Tryd.pinned (.plain (OpenSpec.ofChange fnOddPartsOfAllSpec)) fnOddPartsOfAllCard

/-- THE SECOND FORM's CARD OF 'laws.FnOddPartsOfAll'. -/
def fnOddPartsOfAllUptoCard : Claim7 := { stood := { row := fnOddPartsOfAllUptoRow, standIns := [], harness := (true, "bb07757626bde594e1c5bb7606958dd1e30c1466c160ad9ed5b89e867ca9cca0"), looks := true }, kinds := [], alts := [], laidByText := true, laidKinds := [.data, .data, .data, .sentinel, .sentinel], laidTests := true, laidLooks := .later }
def FnOddPartsOfAllUptoCardSaid : Prop := Claim7.holds Tryd.pinned (.plain (OpenSpec.upto fnOddPartsOfAllSpec)) fnOddPartsOfAllUptoCard
end Rows
end Go.Proofs.YtljolgkdpnpgcaaDoor
