/-
  DERIVED. GIVEN WITH THE SEED: THE CARDS: each row of YthhpgnadbgojoaaDoorRows.lean that lists a variable, with what it lists TIED to the program's text (the seventh form; the later family's looks); each row that meets fmt, with fmt's text TOLD by the authors' own Lean function (tested against real Go, not proved from fmt's source: count such statements apart). THE CARD IS WHAT COUNTS. Prove the row's statement (the work); the ties are given (YthhpgnadbgojoaaDoorTie.lean); close each card by the builder's one call (the guide's Derived/Test/ToyasCard.lean, 'card_holds'). Laid BY PROGRAM, IN A SANDBOX (cutbox-door.mjs). By AI agents, Wed Nov 11 2026. No macro, syntax, notation, axiom, sorry.
-/
import Derived.Test.YthhpgnadbgojoaaDoorRows
import GoSem.ClaimSeven
namespace Go.Proofs.YthhpgnadbgojoaaDoor
namespace Rows

/-- THE TIED CARD OF 'laws.FnExactOtherText'. -/
def fnExactOtherTextCard : Claim7 := { stood := { row := fnExactOtherTextRow, standIns := [], harness := (true, "c9f8a7bb454311d6209669706af84a6bf722d545336a15a9e1a7055bf5c1628e"), looks := true }, kinds := [], alts := [], laidByText := true, laidKinds := [.data, .data, .data], laidTests := true, laidLooks := .later }
def FnExactOtherTextCardSaid : Prop := Claim7.holds Tryd.pinned (.plain (OpenSpec.ofChange fnExactOtherTextSpec)) fnExactOtherTextCard

/-- THE TIED CARD OF 'laws.FnExactParseOther'. -/
def fnExactParseOtherCard : Claim7 := { stood := { row := fnExactParseOtherRow, standIns := [], harness := (true, "c9f8a7bb454311d6209669706af84a6bf722d545336a15a9e1a7055bf5c1628e"), looks := true }, kinds := [], alts := [], laidByText := true, laidKinds := [.data, .data, .data, .data, .sentinel, .sentinel, .pinned], laidTests := true, laidLooks := .later }
def FnExactParseOtherCardSaid : Prop := Claim7.holds Tryd.pinned (.plain (OpenSpec.ofChange fnExactParseOtherSpec)) fnExactParseOtherCard

/-- THE SECOND FORM's CARD OF 'laws.FnExactOtherText'. -/
def fnExactOtherTextUptoCard : Claim7 := { stood := { row := fnExactOtherTextUptoRow, standIns := [], harness := (true, "c9f8a7bb454311d6209669706af84a6bf722d545336a15a9e1a7055bf5c1628e"), looks := true }, kinds := [], alts := [], laidByText := true, laidKinds := [.data, .data, .data], laidTests := true, laidLooks := .later }
def FnExactOtherTextUptoCardSaid : Prop := Claim7.holds Tryd.pinned (.plain (OpenSpec.upto fnExactOtherTextSpec)) fnExactOtherTextUptoCard

/-- THE SECOND FORM's CARD OF 'laws.FnExactParseOther'. -/
def fnExactParseOtherUptoCard : Claim7 := { stood := { row := fnExactParseOtherUptoRow, standIns := [], harness := (true, "c9f8a7bb454311d6209669706af84a6bf722d545336a15a9e1a7055bf5c1628e"), looks := true }, kinds := [], alts := [], laidByText := true, laidKinds := [.data, .data, .data, .data, .sentinel, .sentinel, .pinned], laidTests := true, laidLooks := .later }
def FnExactParseOtherUptoCardSaid : Prop := Claim7.holds Tryd.pinned (.plain (OpenSpec.upto fnExactParseOtherSpec)) fnExactParseOtherUptoCard
end Rows
end Go.Proofs.YthhpgnadbgojoaaDoor
