/-
  DERIVED. GIVEN WITH THE SEED: THE CARDS: each row of YtencblbkbalmcaaDoorRows.lean that lists a variable, with what it lists TIED to the program's text (the seventh form; the later family's looks); each row that meets fmt, with fmt's text TOLD by the authors' own Lean function (tested against real Go, not proved from fmt's source: count such statements apart). THE CARD IS WHAT COUNTS. Prove the row's statement (the work); the ties are given (YtencblbkbalmcaaDoorTie.lean); close each card by the builder's one call (the guide's Derived/Test/ToyasCard.lean, 'card_holds'). Laid BY PROGRAM, IN A SANDBOX (cutbox-door.mjs). By AI agents, Wed Nov 11 2026. No macro, syntax, notation, axiom, sorry.
-/
import Derived.Test.YtencblbkbalmcaaDoorRows
import GoSem.ClaimSeven
namespace Go.Proofs.YtencblbkbalmcaaDoor
namespace Rows

/-- THE TIED CARD OF 'laws.FnExactCountFalling'. -/
def fnExactCountFallingCard : Claim7 := { stood := { row := fnExactCountFallingRow, standIns := [], harness := (true, "ed64d2f0cbb816fe9dbc575decd3e5c9a03242553df7449058c2f8453bad41ca"), looks := false }, kinds := [], alts := [], laidByText := true, laidKinds := [.data], laidTests := true, laidLooks := .later }
def FnExactCountFallingCardSaid : Prop := Claim7.holds Tryd.pinned (.plain (OpenSpec.ofChange fnExactCountFallingSpec)) fnExactCountFallingCard

/-- THE TIED CARD OF 'laws.FnExactFallingWords'. -/
def fnExactFallingWordsCard : Claim7 := { stood := { row := fnExactFallingWordsRow, standIns := [], harness := (true, "ed64d2f0cbb816fe9dbc575decd3e5c9a03242553df7449058c2f8453bad41ca"), looks := false }, kinds := [], alts := [], laidByText := true, laidKinds := [.data], laidTests := true, laidLooks := .later }
def FnExactFallingWordsCardSaid : Prop := Claim7.holds Tryd.pinned (.plain (OpenSpec.ofChange fnExactFallingWordsSpec)) fnExactFallingWordsCard

/-- THE TIED CARD OF 'laws.FnExactFallOfResidue'. -/
def fnExactFallOfResidueCard : Claim7 := { stood := { row := fnExactFallOfResidueRow, standIns := [], harness := (true, "ed64d2f0cbb816fe9dbc575decd3e5c9a03242553df7449058c2f8453bad41ca"), looks := false }, kinds := [], alts := [], laidByText := true, laidKinds := [.data], laidTests := true, laidLooks := .later }
def FnExactFallOfResidueCardSaid : Prop := Claim7.holds Tryd.pinned (.plain (OpenSpec.ofChange fnExactFallOfResidueSpec)) fnExactFallOfResidueCard

/-- THE TIED CARD OF 'laws.FnExactLeftResidues'. -/
def fnExactLeftResiduesCard : Claim7 := { stood := { row := fnExactLeftResiduesRow, standIns := [], harness := (true, "ed64d2f0cbb816fe9dbc575decd3e5c9a03242553df7449058c2f8453bad41ca"), looks := false }, kinds := [], alts := [], laidByText := true, laidKinds := [.data], laidTests := true, laidLooks := .later }
def FnExactLeftResiduesCardSaid : Prop := Claim7.holds Tryd.pinned (.plain (OpenSpec.ofChange fnExactLeftResiduesSpec)) fnExactLeftResiduesCard

/-- THE TIED CARD OF 'laws.FnExactFallenResidues'. -/
def fnExactFallenResiduesCard : Claim7 := { stood := { row := fnExactFallenResiduesRow, standIns := [], harness := (true, "ed64d2f0cbb816fe9dbc575decd3e5c9a03242553df7449058c2f8453bad41ca"), looks := false }, kinds := [], alts := [], laidByText := true, laidKinds := [.data], laidTests := true, laidLooks := .later }
def FnExactFallenResiduesCardSaid : Prop := Claim7.holds Tryd.pinned (.plain (OpenSpec.ofChange fnExactFallenResiduesSpec)) fnExactFallenResiduesCard

/-- THE TIED CARD OF 'laws.FnExactKeepsToResidue'. -/
def fnExactKeepsToResidueCard : Claim7 := { stood := { row := fnExactKeepsToResidueRow, standIns := [], harness := (true, "ed64d2f0cbb816fe9dbc575decd3e5c9a03242553df7449058c2f8453bad41ca"), looks := false }, kinds := [], alts := [], laidByText := true, laidKinds := [.data], laidTests := true, laidLooks := .later }
def FnExactKeepsToResidueCardSaid : Prop := Claim7.holds Tryd.pinned (.plain (OpenSpec.ofChange fnExactKeepsToResidueSpec)) fnExactKeepsToResidueCard

/-- THE TIED CARD OF 'laws.FnExactStrayNumbers'. -/
def fnExactStrayNumbersCard : Claim7 := { stood := { row := fnExactStrayNumbersRow, standIns := [], harness := (true, "ed64d2f0cbb816fe9dbc575decd3e5c9a03242553df7449058c2f8453bad41ca"), looks := false }, kinds := [], alts := [], laidByText := true, laidKinds := [.data], laidTests := true, laidLooks := .later }
def FnExactStrayNumbersCardSaid : Prop := Claim7.holds Tryd.pinned (.plain (OpenSpec.ofChange fnExactStrayNumbersSpec)) fnExactStrayNumbersCard

/-- THE TIED CARD OF 'laws.FnExactSieveUpTo'. -/
def fnExactSieveUpToCard : Claim7 := { stood := { row := fnExactSieveUpToRow, standIns := [], harness := (true, "ed64d2f0cbb816fe9dbc575decd3e5c9a03242553df7449058c2f8453bad41ca"), looks := false }, kinds := [], alts := [], laidByText := true, laidKinds := [.data], laidTests := true, laidLooks := .later }
def FnExactSieveUpToCardSaid : Prop := Claim7.holds Tryd.pinned (.plain (OpenSpec.ofChange fnExactSieveUpToSpec)) fnExactSieveUpToCard

/-- THE SECOND FORM's CARD OF 'laws.FnExactCountFalling'. -/
def fnExactCountFallingUptoCard : Claim7 := { stood := { row := fnExactCountFallingUptoRow, standIns := [], harness := (true, "ed64d2f0cbb816fe9dbc575decd3e5c9a03242553df7449058c2f8453bad41ca"), looks := false }, kinds := [], alts := [], laidByText := true, laidKinds := [.data], laidTests := true, laidLooks := .later }
def FnExactCountFallingUptoCardSaid : Prop := Claim7.holds Tryd.pinned (.plain (OpenSpec.upto fnExactCountFallingSpec)) fnExactCountFallingUptoCard

/-- THE SECOND FORM's CARD OF 'laws.FnExactFallingWords'. -/
def fnExactFallingWordsUptoCard : Claim7 := { stood := { row := fnExactFallingWordsUptoRow, standIns := [], harness := (true, "ed64d2f0cbb816fe9dbc575decd3e5c9a03242553df7449058c2f8453bad41ca"), looks := false }, kinds := [], alts := [], laidByText := true, laidKinds := [.data], laidTests := true, laidLooks := .later }
def FnExactFallingWordsUptoCardSaid : Prop := Claim7.holds Tryd.pinned (.plain (OpenSpec.upto fnExactFallingWordsSpec)) fnExactFallingWordsUptoCard

/-- THE SECOND FORM's CARD OF 'laws.FnExactFallOfResidue'. -/
def fnExactFallOfResidueUptoCard : Claim7 := { stood := { row := fnExactFallOfResidueUptoRow, standIns := [], harness := (true, "ed64d2f0cbb816fe9dbc575decd3e5c9a03242553df7449058c2f8453bad41ca"), looks := false }, kinds := [], alts := [], laidByText := true, laidKinds := [.data], laidTests := true, laidLooks := .later }
def FnExactFallOfResidueUptoCardSaid : Prop := Claim7.holds Tryd.pinned (.plain (OpenSpec.upto fnExactFallOfResidueSpec)) fnExactFallOfResidueUptoCard

/-- THE SECOND FORM's CARD OF 'laws.FnExactLeftResidues'. -/
def fnExactLeftResiduesUptoCard : Claim7 := { stood := { row := fnExactLeftResiduesUptoRow, standIns := [], harness := (true, "ed64d2f0cbb816fe9dbc575decd3e5c9a03242553df7449058c2f8453bad41ca"), looks := false }, kinds := [], alts := [], laidByText := true, laidKinds := [.data], laidTests := true, laidLooks := .later }
def FnExactLeftResiduesUptoCardSaid : Prop := Claim7.holds Tryd.pinned (.plain (OpenSpec.upto fnExactLeftResiduesSpec)) fnExactLeftResiduesUptoCard

/-- THE SECOND FORM's CARD OF 'laws.FnExactFallenResidues'. -/
def fnExactFallenResiduesUptoCard : Claim7 := { stood := { row := fnExactFallenResiduesUptoRow, standIns := [], harness := (true, "ed64d2f0cbb816fe9dbc575decd3e5c9a03242553df7449058c2f8453bad41ca"), looks := false }, kinds := [], alts := [], laidByText := true, laidKinds := [.data], laidTests := true, laidLooks := .later }
def FnExactFallenResiduesUptoCardSaid : Prop := Claim7.holds Tryd.pinned (.plain (OpenSpec.upto fnExactFallenResiduesSpec)) fnExactFallenResiduesUptoCard

/-- THE SECOND FORM's CARD OF 'laws.FnExactKeepsToResidue'. -/
def fnExactKeepsToResidueUptoCard : Claim7 := { stood := { row := fnExactKeepsToResidueUptoRow, standIns := [], harness := (true, "ed64d2f0cbb816fe9dbc575decd3e5c9a03242553df7449058c2f8453bad41ca"), looks := false }, kinds := [], alts := [], laidByText := true, laidKinds := [.data], laidTests := true, laidLooks := .later }
def FnExactKeepsToResidueUptoCardSaid : Prop := Claim7.holds Tryd.pinned (.plain (OpenSpec.upto fnExactKeepsToResidueSpec)) fnExactKeepsToResidueUptoCard

/-- THE SECOND FORM's CARD OF 'laws.FnExactStrayNumbers'. -/
def fnExactStrayNumbersUptoCard : Claim7 := { stood := { row := fnExactStrayNumbersUptoRow, standIns := [], harness := (true, "ed64d2f0cbb816fe9dbc575decd3e5c9a03242553df7449058c2f8453bad41ca"), looks := false }, kinds := [], alts := [], laidByText := true, laidKinds := [.data], laidTests := true, laidLooks := .later }
def FnExactStrayNumbersUptoCardSaid : Prop := Claim7.holds Tryd.pinned (.plain (OpenSpec.upto fnExactStrayNumbersSpec)) fnExactStrayNumbersUptoCard

/-- THE SECOND FORM's CARD OF 'laws.FnExactSieveUpTo'. -/
def fnExactSieveUpToUptoCard : Claim7 := { stood := { row := fnExactSieveUpToUptoRow, standIns := [], harness := (true, "ed64d2f0cbb816fe9dbc575decd3e5c9a03242553df7449058c2f8453bad41ca"), looks := false }, kinds := [], alts := [], laidByText := true, laidKinds := [.data], laidTests := true, laidLooks := .later }
def FnExactSieveUpToUptoCardSaid : Prop := Claim7.holds Tryd.pinned (.plain (OpenSpec.upto fnExactSieveUpToSpec)) fnExactSieveUpToUptoCard
end Rows
end Go.Proofs.YtencblbkbalmcaaDoor
