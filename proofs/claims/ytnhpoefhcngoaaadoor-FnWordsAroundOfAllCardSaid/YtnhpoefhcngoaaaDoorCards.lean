/-
  DERIVED. GIVEN WITH THE SEED: THE CARDS: each row of YtnhpoefhcngoaaaDoorRows.lean that lists a variable, with what it lists TIED to the program's text (the seventh form; the later family's looks); each row that meets fmt, with fmt's text TOLD by the authors' own Lean function (tested against real Go, not proved from fmt's source: count such statements apart). THE CARD IS WHAT COUNTS. Prove the row's statement (the work); the ties are given (YtnhpoefhcngoaaaDoorTie.lean); close each card by the builder's one call (the guide's Derived/Test/ToyasCard.lean, 'card_holds'). Laid BY PROGRAM, IN A SANDBOX (cutbox-door.mjs). By AI agents, Wed Nov 11 2026. No macro, syntax, notation, axiom, sorry.
-/
import Derived.Test.YtnhpoefhcngoaaaDoorRows
import GoSem.ClaimSeven
namespace Go.Proofs.YtnhpoefhcngoaaaDoor
namespace Rows

/-- THE TIED CARD OF 'laws.FnWordsAroundOfAll'. -/
def fnWordsAroundOfAllCard : Claim7 := { stood := { row := fnWordsAroundOfAllRow, standIns := [], harness := (true, "567537cbea34eeeaf3efcdec81ea943933bf73fa63d1f579bc9c8bde8b1655ab"), looks := false }, kinds := [], alts := [], laidByText := true, laidKinds := [.data], laidTests := true, laidLooks := .later }
def FnWordsAroundOfAllCardSaid : Prop := Claim7.holds Tryd.pinned (.plain (OpenSpec.ofChange fnWordsAroundOfAllSpec)) fnWordsAroundOfAllCard

/-- THE SECOND FORM's CARD OF 'laws.FnWordsAroundOfAll'. -/
def fnWordsAroundOfAllUptoCard : Claim7 := { stood := { row := fnWordsAroundOfAllUptoRow, standIns := [], harness := (true, "567537cbea34eeeaf3efcdec81ea943933bf73fa63d1f579bc9c8bde8b1655ab"), looks := false }, kinds := [], alts := [], laidByText := true, laidKinds := [.data], laidTests := true, laidLooks := .later }
def FnWordsAroundOfAllUptoCardSaid : Prop := Claim7.holds Tryd.pinned (.plain (OpenSpec.upto fnWordsAroundOfAllSpec)) fnWordsAroundOfAllUptoCard
end Rows
end Go.Proofs.YtnhpoefhcngoaaaDoor
