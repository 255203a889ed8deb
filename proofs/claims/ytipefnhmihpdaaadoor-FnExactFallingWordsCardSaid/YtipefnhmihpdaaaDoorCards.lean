/-
  DERIVED. GIVEN WITH THE SEED: THE CARDS: each row of YtipefnhmihpdaaaDoorRows.lean that lists a variable, with what it lists TIED to the program's text (the seventh form; the later family's looks); each row that meets fmt, with fmt's text TOLD by the authors' own Lean function (tested against real Go, not proved from fmt's source: count such statements apart). THE CARD IS WHAT COUNTS. Prove the row's statement (the work); the ties are given (YtipefnhmihpdaaaDoorTie.lean); close each card by the builder's one call (the guide's Derived/Test/ToyasCard.lean, 'card_holds'). Laid BY PROGRAM, IN A SANDBOX (cutbox-door.mjs). By AI agents, Wed Nov 11 2026. No macro, syntax, notation, axiom, sorry.
-/
import Derived.Test.YtipefnhmihpdaaaDoorRows
import GoSem.ClaimSeven
namespace Go.Proofs.YtipefnhmihpdaaaDoor
namespace Rows

/-- THE TIED CARD OF 'laws.FnExactWordOf'. -/
def fnExactWordOfCard : Claim7 := { stood := { row := fnExactWordOfRow, standIns := [], harness := (true, "891d223de602d87e7b2ec9573d170494a40d8af1e21591e664beef2cd7b3b851"), looks := false }, kinds := [], alts := [], laidByText := true, laidKinds := [.data], laidTests := true, laidLooks := .later }
def FnExactWordOfCardSaid : Prop := Claim7.holds Tryd.pinned (.plain (OpenSpec.ofChange fnExactWordOfSpec)) fnExactWordOfCard

/-- THE TIED CARD OF 'laws.FnExactWordOfResidue'. -/
def fnExactWordOfResidueCard : Claim7 := { stood := { row := fnExactWordOfResidueRow, standIns := [], harness := (true, "891d223de602d87e7b2ec9573d170494a40d8af1e21591e664beef2cd7b3b851"), looks := false }, kinds := [], alts := [], laidByText := true, laidKinds := [.data], laidTests := true, laidLooks := .later }
def FnExactWordOfResidueCardSaid : Prop := Claim7.holds Tryd.pinned (.plain (OpenSpec.ofChange fnExactWordOfResidueSpec)) fnExactWordOfResidueCard

/-- THE TIED CARD OF 'laws.FnExactCommonLength'. -/
def fnExactCommonLengthCard : Claim7 := { stood := { row := fnExactCommonLengthRow, standIns := [], harness := (true, "891d223de602d87e7b2ec9573d170494a40d8af1e21591e664beef2cd7b3b851"), looks := false }, kinds := [], alts := [], laidByText := true, laidKinds := [.data, .data], laidTests := true, laidLooks := .later }
def FnExactCommonLengthCardSaid : Prop := Claim7.holds Tryd.pinned (.plain (OpenSpec.ofChange fnExactCommonLengthSpec)) fnExactCommonLengthCard

/-- THE TIED CARD OF 'laws.FnExactCountFalling'. -/
def fnExactCountFallingCard : Claim7 := { stood := { row := fnExactCountFallingRow, standIns := [], harness := (true, "891d223de602d87e7b2ec9573d170494a40d8af1e21591e664beef2cd7b3b851"), looks := false }, kinds := [], alts := [], laidByText := true, laidKinds := [.data], laidTests := true, laidLooks := .later }
def FnExactCountFallingCardSaid : Prop := Claim7.holds Tryd.pinned (.plain (OpenSpec.ofChange fnExactCountFallingSpec)) fnExactCountFallingCard

/-- THE TIED CARD OF 'laws.FnExactFallingWords'. -/
def fnExactFallingWordsCard : Claim7 := { stood := { row := fnExactFallingWordsRow, standIns := [], harness := (true, "891d223de602d87e7b2ec9573d170494a40d8af1e21591e664beef2cd7b3b851"), looks := false }, kinds := [], alts := [], laidByText := true, laidKinds := [.data], laidTests := true, laidLooks := .later }
def FnExactFallingWordsCardSaid : Prop := Claim7.holds Tryd.pinned (.plain (OpenSpec.ofChange fnExactFallingWordsSpec)) fnExactFallingWordsCard

/-- THE SECOND FORM's CARD OF 'laws.FnExactWordOf'. -/
def fnExactWordOfUptoCard : Claim7 := { stood := { row := fnExactWordOfUptoRow, standIns := [], harness := (true, "891d223de602d87e7b2ec9573d170494a40d8af1e21591e664beef2cd7b3b851"), looks := false }, kinds := [], alts := [], laidByText := true, laidKinds := [.data], laidTests := true, laidLooks := .later }
def FnExactWordOfUptoCardSaid : Prop := Claim7.holds Tryd.pinned (.plain (OpenSpec.upto fnExactWordOfSpec)) fnExactWordOfUptoCard

/-- THE SECOND FORM's CARD OF 'laws.FnExactWordOfResidue'. -/
def fnExactWordOfResidueUptoCard : Claim7 := { stood := { row := fnExactWordOfResidueUptoRow, standIns := [], harness := (true, "891d223de602d87e7b2ec9573d170494a40d8af1e21591e664beef2cd7b3b851"), looks := false }, kinds := [], alts := [], laidByText := true, laidKinds := [.data], laidTests := true, laidLooks := .later }
def FnExactWordOfResidueUptoCardSaid : Prop := Claim7.holds Tryd.pinned (.plain (OpenSpec.upto fnExactWordOfResidueSpec)) fnExactWordOfResidueUptoCard

/-- THE SECOND FORM's CARD OF 'laws.FnExactCommonLength'. -/
def fnExactCommonLengthUptoCard : Claim7 := { stood := { row := fnExactCommonLengthUptoRow, standIns := [], harness := (true, "891d223de602d87e7b2ec9573d170494a40d8af1e21591e664beef2cd7b3b851"), looks := false }, kinds := [], alts := [], laidByText := true, laidKinds := [.data, .data], laidTests := true, laidLooks := .later }
def FnExactCommonLengthUptoCardSaid : Prop := Claim7.holds Tryd.pinned (.plain (OpenSpec.upto fnExactCommonLengthSpec)) fnExactCommonLengthUptoCard

/-- THE SECOND FORM's CARD OF 'laws.FnExactCountFalling'. -/
def fnExactCountFallingUptoCard : Claim7 := { stood := { row := fnExactCountFallingUptoRow, standIns := [], harness := (true, "891d223de602d87e7b2ec9573d170494a40d8af1e21591e664beef2cd7b3b851"), looks := false }, kinds := [], alts := [], laidByText := true, laidKinds := [.data], laidTests := true, laidLooks := .later }
def FnExactCountFallingUptoCardSaid : Prop := Claim7.holds Tryd.pinned (.plain (OpenSpec.upto fnExactCountFallingSpec)) fnExactCountFallingUptoCard

/-- THE SECOND FORM's CARD OF 'laws.FnExactFallingWords'. -/
def fnExactFallingWordsUptoCard : Claim7 := { stood := { row := fnExactFallingWordsUptoRow, standIns := [], harness := (true, "891d223de602d87e7b2ec9573d170494a40d8af1e21591e664beef2cd7b3b851"), looks := false }, kinds := [], alts := [], laidByText := true, laidKinds := [.data], laidTests := true, laidLooks := .later }
def FnExactFallingWordsUptoCardSaid : Prop := Claim7.holds Tryd.pinned (.plain (OpenSpec.upto fnExactFallingWordsSpec)) fnExactFallingWordsUptoCard
end Rows
end Go.Proofs.YtipefnhmihpdaaaDoor
