/-
  DERIVED. GIVEN WITH THE SEED: THE CARDS: each row of YteekglabcimfpaaDoorRows.lean that lists a variable, with what it lists TIED to the program's text (the seventh form; the later family's looks); each row that meets fmt, with fmt's text TOLD by the authors' own Lean function (tested against real Go, not proved from fmt's source: count such statements apart). THE CARD IS WHAT COUNTS. Prove the row's statement (the work); the ties are given (YteekglabcimfpaaDoorTie.lean); close each card by the builder's one call (the guide's Derived/Test/ToyasCard.lean, 'card_holds'). Laid BY PROGRAM, IN A SANDBOX (cutbox-door.mjs). By AI agents, Wed Nov 11 2026. No macro, syntax, notation, axiom, sorry.
-/
import Derived.Test.YteekglabcimfpaaDoorRows
import GoSem.ClaimSeven
namespace Go.Proofs.YteekglabcimfpaaDoor
namespace Rows

/-- THE TIED CARD OF 'laws.FnExactResidueOfWord'. -/
def fnExactResidueOfWordCard : Claim7 := { stood := { row := fnExactResidueOfWordRow, standIns := [], harness := (true, "7f5da40d6e621618142f95e6cb628ae984d3c374e167cd8bc57c27501282c921"), looks := false }, kinds := [], alts := [], laidByText := true, laidKinds := [.data], laidTests := true, laidLooks := .later }
def FnExactResidueOfWordCardSaid : Prop := Claim7.holds Tryd.pinned (.plain (OpenSpec.ofChange fnExactResidueOfWordSpec)) fnExactResidueOfWordCard

/-- THE TIED CARD OF 'laws.FnExactNumbersWithWord'. -/
def fnExactNumbersWithWordCard : Claim7 := { stood := { row := fnExactNumbersWithWordRow, standIns := [], harness := (true, "7f5da40d6e621618142f95e6cb628ae984d3c374e167cd8bc57c27501282c921"), looks := false }, kinds := [], alts := [], laidByText := true, laidKinds := [.data], laidTests := true, laidLooks := .later }
def FnExactNumbersWithWordCardSaid : Prop := Claim7.holds Tryd.pinned (.plain (OpenSpec.ofChange fnExactNumbersWithWordSpec)) fnExactNumbersWithWordCard

/-- THE TIED CARD OF 'laws.FnExactHasWord'. -/
def fnExactHasWordCard : Claim7 := { stood := { row := fnExactHasWordRow, standIns := [], harness := (true, "7f5da40d6e621618142f95e6cb628ae984d3c374e167cd8bc57c27501282c921"), looks := false }, kinds := [], alts := [], laidByText := true, laidKinds := [.data], laidTests := true, laidLooks := .later }
def FnExactHasWordCardSaid : Prop := Claim7.holds Tryd.pinned (.plain (OpenSpec.ofChange fnExactHasWordSpec)) fnExactHasWordCard

/-- THE TIED CARD OF 'laws.FnExactBehindWord'. -/
def fnExactBehindWordCard : Claim7 := { stood := { row := fnExactBehindWordRow, standIns := [], harness := (true, "7f5da40d6e621618142f95e6cb628ae984d3c374e167cd8bc57c27501282c921"), looks := false }, kinds := [], alts := [], laidByText := true, laidKinds := [.data], laidTests := true, laidLooks := .later }
def FnExactBehindWordCardSaid : Prop := Claim7.holds Tryd.pinned (.plain (OpenSpec.ofChange fnExactBehindWordSpec)) fnExactBehindWordCard

/-- THE TIED CARD OF 'laws.FnExactNumberBehind'. -/
def fnExactNumberBehindCard : Claim7 := { stood := { row := fnExactNumberBehindRow, standIns := [], harness := (true, "7f5da40d6e621618142f95e6cb628ae984d3c374e167cd8bc57c27501282c921"), looks := false }, kinds := [], alts := [], laidByText := true, laidKinds := [.data], laidTests := true, laidLooks := .later }
def FnExactNumberBehindCardSaid : Prop := Claim7.holds Tryd.pinned (.plain (OpenSpec.ofChange fnExactNumberBehindSpec)) fnExactNumberBehindCard

/-- THE TIED CARD OF 'laws.FnExactCountOfWords'. -/
def fnExactCountOfWordsCard : Claim7 := { stood := { row := fnExactCountOfWordsRow, standIns := [], harness := (true, "7f5da40d6e621618142f95e6cb628ae984d3c374e167cd8bc57c27501282c921"), looks := false }, kinds := [], alts := [], laidByText := true, laidKinds := [.data], laidTests := true, laidLooks := .later }
def FnExactCountOfWordsCardSaid : Prop := Claim7.holds Tryd.pinned (.plain (OpenSpec.ofChange fnExactCountOfWordsSpec)) fnExactCountOfWordsCard

/-- THE TIED CARD OF 'laws.FnExactJoinResidue'. -/
def fnExactJoinResidueCard : Claim7 := { stood := { row := fnExactJoinResidueRow, standIns := [], harness := (true, "7f5da40d6e621618142f95e6cb628ae984d3c374e167cd8bc57c27501282c921"), looks := false }, kinds := [], alts := [], laidByText := true, laidKinds := [.data], laidTests := true, laidLooks := .later }
def FnExactJoinResidueCardSaid : Prop := Claim7.holds Tryd.pinned (.plain (OpenSpec.ofChange fnExactJoinResidueSpec)) fnExactJoinResidueCard

/-- THE SECOND FORM's CARD OF 'laws.FnExactResidueOfWord'. -/
def fnExactResidueOfWordUptoCard : Claim7 := { stood := { row := fnExactResidueOfWordUptoRow, standIns := [], harness := (true, "7f5da40d6e621618142f95e6cb628ae984d3c374e167cd8bc57c27501282c921"), looks := false }, kinds := [], alts := [], laidByText := true, laidKinds := [.data], laidTests := true, laidLooks := .later }
def FnExactResidueOfWordUptoCardSaid : Prop := Claim7.holds Tryd.pinned (.plain (OpenSpec.upto fnExactResidueOfWordSpec)) fnExactResidueOfWordUptoCard

/-- THE SECOND FORM's CARD OF 'laws.FnExactNumbersWithWord'. -/
def fnExactNumbersWithWordUptoCard : Claim7 := { stood := { row := fnExactNumbersWithWordUptoRow, standIns := [], harness := (true, "7f5da40d6e621618142f95e6cb628ae984d3c374e167cd8bc57c27501282c921"), looks := false }, kinds := [], alts := [], laidByText := true, laidKinds := [.data], laidTests := true, laidLooks := .later }
def FnExactNumbersWithWordUptoCardSaid : Prop := Claim7.holds Tryd.pinned (.plain (OpenSpec.upto fnExactNumbersWithWordSpec)) fnExactNumbersWithWordUptoCard

/-- THE SECOND FORM's CARD OF 'laws.FnExactHasWord'. -/
def fnExactHasWordUptoCard : Claim7 := { stood := { row := fnExactHasWordUptoRow, standIns := [], harness := (true, "7f5da40d6e621618142f95e6cb628ae984d3c374e167cd8bc57c27501282c921"), looks := false }, kinds := [], alts := [], laidByText := true, laidKinds := [.data], laidTests := true, laidLooks := .later }
def FnExactHasWordUptoCardSaid : Prop := Claim7.holds Tryd.pinned (.plain (OpenSpec.upto fnExactHasWordSpec)) fnExactHasWordUptoCard

/-- THE SECOND FORM's CARD OF 'laws.FnExactBehindWord'. -/
def fnExactBehindWordUptoCard : Claim7 := { stood := { row := fnExactBehindWordUptoRow, standIns := [], harness := (true, "7f5da40d6e621618142f95e6cb628ae984d3c374e167cd8bc57c27501282c921"), looks := false }, kinds := [], alts := [], laidByText := true, laidKinds := [.data], laidTests := true, laidLooks := .later }
def FnExactBehindWordUptoCardSaid : Prop := Claim7.holds Tryd.pinned (.plain (OpenSpec.upto fnExactBehindWordSpec)) fnExactBehindWordUptoCard

/-- THE SECOND FORM's CARD OF 'laws.FnExactNumberBehind'. -/
def fnExactNumberBehindUptoCard : Claim7 := { stood := { row := fnExactNumberBehindUptoRow, standIns := [], harness := (true, "7f5da40d6e621618142f95e6cb628ae984d3c374e167cd8bc57c27501282c921"), looks := false }, kinds := [], alts := [], laidByText := true, laidKinds := [.data], laidTests := true, laidLooks := .later }
def FnExactNumberBehindUptoCardSaid : Prop := Claim7.holds Tryd.pinned (.plain (OpenSpec.upto fnExactNumberBehindSpec)) fnExactNumberBehindUptoCard

/-- THE SECOND FORM's CARD OF 'laws.FnExactCountOfWords'. -/
def fnExactCountOfWordsUptoCard : Claim7 := { stood := { row := fnExactCountOfWordsUptoRow, standIns := [], harness := (true, "7f5da40d6e621618142f95e6cb628ae984d3c374e167cd8bc57c27501282c921"), looks := false }, kinds := [], alts := [], laidByText := true, laidKinds := [.data], laidTests := true, laidLooks := .later }
def FnExactCountOfWordsUptoCardSaid : Prop := Claim7.holds Tryd.pinned (.plain (OpenSpec.upto fnExactCountOfWordsSpec)) fnExactCountOfWordsUptoCard

/-- THE SECOND FORM's CARD OF 'laws.FnExactJoinResidue'. -/
def fnExactJoinResidueUptoCard : Claim7 := { stood := { row := fnExactJoinResidueUptoRow, standIns := [], harness := (true, "7f5da40d6e621618142f95e6cb628ae984d3c374e167cd8bc57c27501282c921"), looks := false }, kinds := [], alts := [], laidByText := true, laidKinds := [.data], laidTests := true, laidLooks := .later }
def FnExactJoinResidueUptoCardSaid : Prop := Claim7.holds Tryd.pinned (.plain (OpenSpec.upto fnExactJoinResidueSpec)) fnExactJoinResidueUptoCard
end Rows
end Go.Proofs.YteekglabcimfpaaDoor
